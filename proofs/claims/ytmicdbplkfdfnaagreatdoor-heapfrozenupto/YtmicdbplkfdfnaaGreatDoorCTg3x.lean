/- heap.Make of an Array, the first object of all. -/
import Derived.Test.YtmicdbplkfdfnaaGreatDoorCHq2x
import Derived.Test.YtmicdbplkfdfnaaGreatDoorCHq7x
set_option linter.unusedVariables false
namespace Go.Proofs.YtmicdbplkfdfnaaGreatDoor
open Go.RowKit Go.Shelf Go.Maps

set_option maxRecDepth 100000 in
set_option maxHeartbeats 2000000 in
theorem make_arr (H S : Nat) (T : List Nat) (R : World → Prop) (C : ByteArray) (w : World)
    (hH : w.heap[H]? = some (.cells #[.slice none 0 0, .int .i64 0, .int .i64 0, .int .i64 0, .pointer (some ⟨S, 0, none⟩), .int .i64 0, .int .i64 0] 91 (0, 0))) (hC : (C.toList == [65, 114, 114, 97, 121]) = true) (hT : ∀ i ∈ T, i < w.heap.size ∧ i ≠ H)
    (cS : ∀ W, Kx [H] w W → W.heap[w.heap.size]? = some (.cells (objV C (.pointer none) 1 S) 111 (0, 0)) → Calls Tryz.prog 59 #[.pointer (some ⟨w.heap.size, 0, none⟩), .agg #[.string ⟨#[108, 101, 110, 103, 116, 104]⟩, .int .u32 0, .bool false], .agg #[.bool true, .bool false, .bool false, .bool false, .int .i64 3, .float .f64 0, .string ⟨#[]⟩, .pointer none, .pointer none, .pointer none]] W fun e w' => (∃ u, e = .returned u) ∧ Kx (w.heap.size :: T) W w' ∧ R w') :
    Calls Tryz.prog 36 #[.pointer (some ⟨H, 0, none⟩), .string C, .pointer none] w fun e w' => e = .returned (.pointer (some ⟨w.heap.size, 0, none⟩)) ∧ ∃ W g cap, R W ∧ Kx (w.heap.size :: H :: T) w W ∧ W.heap.size ≤ g ∧ w'.heap[H]? = some (.cells #[.slice (some ⟨g, 0, none⟩) 1 cap, .int .i64 1, .int .i64 0, .int .i64 0, .pointer (some ⟨S, 0, none⟩), .int .i64 0, .int .i64 0] 91 (0, 0)) ∧ w'.ownsRow W.heap.size 61 1 (.slice (some ⟨g, 0, none⟩) 1 cap) 1 [ptrV w.heap.size] ∧ Kx [H] W w' := by
  have c1 := cell_at hH 1 rfl
  have f1 := fr_all hH 1
  obtain ⟨W1, hW1⟩ : ∃ W1, W1 = w.setCell ⟨H, 1, none⟩ (.int .i64 1) := ⟨_, rfl⟩
  have hk1 : Kx [H] w W1 := by rw [hW1]; exact Kx.setCell _ (by simp) _
  have hH1 : W1.heap[H]? = some (.cells #[.slice none 0 0, .int .i64 1, .int .i64 0, .int .i64 0, .pointer (some ⟨S, 0, none⟩), .int .i64 0, .int .i64 0] 91 (0, 0)) := by rw [hW1]; exact heap_set_at hH 1 _ rfl
  have hsz : W1.heap.size = w.heap.size := by rw [hW1]; simp [World.setCell]
  obtain ⟨W2, hW2⟩ : ∃ W2, W2 = W1.alloc (Obj.cells #[.string C, .pointer none, .bool false, .nilIface, .int .i64 1, .pointer (some ⟨S, 0, none⟩), .slice none 0 0, .slice none 0 0, .map none, .bool false] 111) := ⟨_, rfl⟩
  have hk2 : Kx [] W1 W2 := by rw [hW2]; exact Kx.alloc _ _ _
  have hH2 := hk2.get hH1 (by simp)
  have hb2 : W2.heap[W1.heap.size]? = some (.cells (objV C (.pointer none) 1 S) 111 (0, 0)) := by rw [hW2]; exact heap_alloc_new _ _
  have a1 := cell_at hH1 1 rfl
  have a2 := cell_at hH1 4 rfl
  have b1 := cell_at hH2 1 rfl
  have b2 := cell_at hH2 4 rfl
  rw [hW2] at b1 b2
  have HLH := (show Hid (H < w.heap.size) from lt_get hH)
  have HH := (show Hid (Kx [H] w W1 ∧ Kx [] W1 W2 ∧ W2.heap[H]? = some (.cells #[.slice none 0 0, .int .i64 1, .int .i64 0, .int .i64 0, .pointer (some ⟨S, 0, none⟩), .int .i64 0, .int .i64 0] 91 (0, 0)) ∧ W2.heap[W1.heap.size]? = some (.cells (objV C (.pointer none) 1 S) 111 (0, 0))) from And.intro hk1 (And.intro hk2 (And.intro hH2 hb2)))
  have CS := (show Hid (∀ W, Kx [H] w W → W.heap[w.heap.size]? = some (.cells (objV C (.pointer none) 1 S) 111 (0, 0)) → Calls Tryz.prog 59 #[.pointer (some ⟨w.heap.size, 0, none⟩), .agg #[.string ⟨#[108, 101, 110, 103, 116, 104]⟩, .int .u32 0, .bool false], .agg #[.bool true, .bool false, .bool false, .bool false, .int .i64 3, .float .f64 0, .string ⟨#[]⟩, .pointer none, .pointer none, .pointer none]] W fun e w' => (∃ u, e = .returned u) ∧ Kx (w.heap.size :: T) W w' ∧ R w') from cS)
  have HT := (show Hid (∀ i ∈ T, i < w.heap.size ∧ i ≠ H) from hT)
  clear hH2 hb2 hk1 hk2 hH1 hH cS hT
  go_enter Tryz.func36, Tryz.ntmps36
  go_wp2
  rw [← hW1]
  clear hW1 c1 f1
  go_region_held3 (fun Z : World => Z.cell? ⟨H, 1, none⟩ = some (.int .i64 1) ∧ Z.cell? ⟨H, 4, none⟩ = some (.pointer (some ⟨S, 0, none⟩))) (first | exact ⟨a1, a2⟩ | exact ⟨b1, b2⟩) (fail)
  rw [← hW2]
  obtain ⟨W3, hW3⟩ : ∃ W3, W3 = W2.drew := ⟨_, rfl⟩
  have HK3 : Hid (Kx [H] w W3) := by rw [hW3]; exact (show Kx [H] w _ from HH.out.1.trans HH.out.2.1.drw1 (fun i hi => by cases hi))
  have HH3 : Hid (W3.heap[H]? = some (.cells #[.slice none 0 0, .int .i64 1, .int .i64 0, .int .i64 0, .pointer (some ⟨S, 0, none⟩), .int .i64 0, .int .i64 0] 91 (0, 0))) := by rw [hW3]; exact HH.out.2.2.1
  have HB3 : Hid (W3.heap[w.heap.size]? = some (.cells (objV C (.pointer none) 1 S) 111 (0, 0))) := by rw [hW3, ← hsz]; exact HH.out.2.2.2
  rw [← hW3]
  clear hW3 hW2 HH a1 a2 b1 b2
  go_wp2_with (first | (go_at_call 59; fail))
  refine (CS.out W3 HK3.out HB3.out).mono ?_
  rintro e w5 ⟨⟨u, rfl⟩, hk5, hR⟩
  have HR5 := (show Hid (R w5) from hR)
  have HK5 := (show Hid (Kx (w.heap.size :: H :: T) w w5) from (HK3.out.mono (S := w.heap.size :: H :: T) (fun i hi => .inl (by simp at hi; simp [hi]))).trans hk5 (fun i hi => .inl (by simp only [List.mem_cons] at hi ⊢; rcases hi with h | h <;> simp [h])))
  have HH5 := (show Hid (w5.heap[H]? = some (.cells #[.slice none 0 0, .int .i64 1, .int .i64 0, .int .i64 0, .pointer (some ⟨S, 0, none⟩), .int .i64 0, .int .i64 0] 91 (0, 0))) from hk5.get HH3.out (fun hm => by
    simp only [List.mem_cons] at hm
    rcases hm with h | h
    · have := HLH.out; omega
    · exact (HT.out H h).2 rfl))
  clear hk5 hR CS HK3 HH3 HB3 HT HLH
  obtain ⟨i0, hi, hz0, hz1, hz2⟩ := info_parts info61
  have hob : Hid ((Value.slice none 0 0).ownBlock = none) := (show (Value.slice none 0 0).ownBlock = none from rfl)
  have q1 : 0 + 1 ≤ maxLen := by unfold maxLen; omega
  have z0 := cell_at HH5.out 0 rfl
  have HN5 := (show Hid (w5.ownsRow w5.heap.size 61 1 (.slice none 0 0) 0 []) from World.ownsRow_nil _ _ _ _)
  go_wp2_with (first | (at_builtin; refine wpList_append_lies _ rfl _ _ 89 rfl w5.heap.size 61 i0 (.pointer none) 1 8 Tryz.underlying89 hi hz0 hz1 hz2 rfl (by decide) _ _ _ rfl (HN5.out.alloc _) ⟨w5.heap.size, 0, none⟩ 1 1 [(.pointer (some ⟨w.heap.size, 0, none⟩))] rfl rfl (cells_new w5 [(.pointer (some ⟨w.heap.size, 0, none⟩))] 61) (by intro u hu; simp at hu; rw [hu]; rfl) (by decide) q1 (by omega) (by simp) (w5.heap.size + 1) (by simp) ?_; intro gg cc w4 hown1 hgrow hat hlt1; have JN4 : Hid (w4.heap[H]? = some (.cells #[.slice none 0 0, .int .i64 1, .int .i64 0, .int .i64 0, .pointer (some ⟨S, 0, none⟩), .int .i64 0, .int .i64 0] 91 (0, 0))) := (Kx.grown hgrow).get ((Kx.alloc [] w5 _).get HH5.out (by simp)) (fun hm => by cases hm); have cN4 : w4.cell? ⟨H, 0, none⟩ = some (.slice none 0 0) := cell_at JN4.out 0 rfl; have fN4 : w4.frozen? ⟨H, 0, none⟩ = false := fr_all JN4.out 0))
  go_ret
  have kD : Kx [H] w4 (w4.setCell ⟨H, 0, none⟩ (.slice (some ⟨gg, 0, none⟩) (0 + 1) cc)) := Kx.setCell _ (by simp) _
  have hk4 : Kx [] w5 w4 := (Kx.alloc [] w5 _).same ((Kx.grown hgrow).mono (fun i hi => by cases hi))
  refine ⟨rfl, w5, gg, cc, HR5.out, HK5.out, ?_, heap_set_at JN4.out 0 _ rfl, ?_, (hk4.mono (S := [H]) (fun i hi => by cases hi)).same kD⟩
  · exact (hown1.lt gg (by simp [Value.ownBlock])).1
  · exact kD.owns hown1 (fun q hq hm => row_apart hown1 JN4.out (by decide) (by rw [hq, List.mem_singleton.1 hm]; simp))
end Go.Proofs.YtmicdbplkfdfnaaGreatDoor
set_option linter.unusedVariables false
namespace Go.Proofs.YtmicdbplkfdfnaaGreatDoor
open Go.RowKit Go.Shelf Go.Maps

structure New0 (w : World) (n0 O H S N M : Nat) : Prop where
  face : w.heap[O]? = some (.cells #[.pointer (some ⟨H, 0, none⟩)] 54 (0, 0))
  heap : w.heap[H]? = some (.cells #[.slice none 0 0, .int .i64 0, .int .i64 0, .int .i64 0, .pointer (some ⟨S, 0, none⟩), .int .i64 0, .int .i64 0] 91 (0, 0))
  shp : w.heap[S]? = some (.cells #[.pointer (some ⟨N, 0, none⟩), .int .i64 0, .pointer none, .map none, .bool false, .bool false] 118 (0, 0))
  nms : NamesAt w n0 N M 0 (.slice none 0 0) (.int .i64 0) []
  lo : n0 ≤ O ∧ n0 ≤ H ∧ n0 ≤ S ∧ n0 ≤ N ∧ n0 ≤ M
  n0w : n0 ≤ w.heap.size
theorem New0.kept {w w' : World} {n0 O H S N M : Nat} (h : New0 w n0 O H S N M) (hk : Kx [] w w') : New0 w' n0 O H S N M :=
  ⟨hk.get h.face (by simp), hk.get h.heap (by simp), hk.get h.shp (by simp), h.nms.kept hk (by simp) (by simp) (fun g hg => by simp), h.lo, Nat.le_trans h.n0w hk.size⟩
theorem new_facts (w : World) : (wNew w).heap[w.heap.size]? = some (.map #[] 0) ∧ (wNew w).heap[w.heap.size + 1]? = some (.cells #[.slice none 0 0, .map (some w.heap.size), .int .i64 0] 121 (0, 0)) ∧ (wNew w).heap[w.heap.size + 1 + 1]? = some (.cells #[.pointer (some ⟨w.heap.size + 1, 0, none⟩), .int .i64 0, .pointer none, .map none, .bool false, .bool false] 118 (0, 0)) ∧
    (wNew w).heap[w.heap.size + 1 + 1 + 1]? = some (.cells #[.slice none 0 0, .int .i64 0, .int .i64 0, .int .i64 0, .pointer (some ⟨w.heap.size + 1 + 1, 0, none⟩), .int .i64 0, .int .i64 0] 91 (0, 0)) ∧ (wNew w).heap[w.heap.size + 1 + 1 + 1 + 1]? = some (.cells #[.pointer (some ⟨w.heap.size + 1 + 1 + 1, 0, none⟩)] 54 (0, 0)) ∧ Kx [] w (wNew w) ∧ (wNew w).heap.size = w.heap.size + 5 := by
  have e1 : (w.alloc (Obj.map #[] 0)).heap.size = w.heap.size + 1 := by simp
  have e2 : ((w.alloc (Obj.map #[] 0)).alloc (Obj.cells #[.slice none 0 0, .map (some w.heap.size), .int .i64 0] 121)).heap.size = w.heap.size + 1 + 1 := by simp
  have e3 := wShape_size w
  have e4 := wHeap_size w
  refine ⟨?_, ?_, ?_, ?_, ?_, ?_, ?_⟩
  · exact heap_old (heap_old (heap_old (heap_old (heap_alloc_new _ _) _) _) _) _
  · refine heap_old (heap_old (heap_old ?_ _) _) _
    rw [← e1]
    exact heap_alloc_new _ _
  · refine heap_old (heap_old ?_ _) _
    rw [← e2]
    exact heap_alloc_new _ _
  · refine heap_old ?_ _
    rw [← e3]
    exact heap_alloc_new _ _
  · rw [← e4]
    exact heap_alloc_new _ _
  · exact ((((Kx.alloc _ _ _).alc _).alc _).alc _).alc _
  · simp [wNew, e4]
theorem new_first (w : World) : New0 (wNew w) w.heap.size (w.heap.size + 1 + 1 + 1 + 1) (w.heap.size + 1 + 1 + 1) (w.heap.size + 1 + 1) (w.heap.size + 1) w.heap.size ∧ Kx [] w (wNew w) := by
  obtain ⟨f1, f2, f3, f4, f5, f6, f7⟩ := new_facts w
  have hm : IMap (wNew w) w.heap.size 0 (pf []) := by
    have h0 := imap_made w
    obtain ⟨D, ⟨es, clock, hb, rest⟩, hD⟩ := h0
    rw [heap_alloc_new] at hb
    cases hb
    exact ⟨D, ⟨#[], 0, f1, rest⟩, hD⟩
  exact ⟨⟨f5, f4, f3, ⟨f2, World.ownsRow_nil _ _ _ _, hm⟩, by omega, by omega⟩, f6⟩
theorem New0.objs {w : World} {n0 O H S N M : Nat} (h : New0 w n0 O H S N M) : Objs w H [] := ⟨by simp, .inl ⟨rfl, cell_at h.heap 0 rfl⟩⟩
theorem rowBaseLe {w : World} {B B' : Nat} {e : TypeId} {sz : Nat} {v : Value} {n : Nat} {xs : List Value} (h : w.ownsRow B e sz v n xs) (hB : B' ≤ B) : w.ownsRow B' e sz v n xs := by
  refine ⟨h.1, ?_⟩
  rcases h.2 with h2 | ⟨g, cap, cur, h3, h4, h5⟩
  · exact .inl h2
  · exact .inr ⟨g, cap, cur, h3, Nat.le_trans hB h4, h5⟩
/-- What stands behind Make. -/
def Made (n0 O H : Nat) (arr : Bool) (w w' : World) : Prop := ∃ b L P F, FSt w' n0 O H b arr false L P (fun _ => none) F ∧ F.al = false ∧ F.q ≤ 1 ∧ F.m = 0 ∧ L.length ≤ 1 ∧ Inv1 arr L P (fun _ => none) 0 ∧ Below n0 w w'
theorem inv_obj : Inv1 false [] [] (fun _ => none) 0 := ⟨(fun i p h => by simp at h), (fun k p h => by cases h), (fun h => by cases h), [], by simp [Rises], by simp, by simp⟩
theorem inv_arr : Inv1 true [lenS] [(true, false, false, 0)] (fun _ => none) 0 := by
  refine ⟨?_, (fun k p h => by cases h), ?_, [], by simp [Rises], by simp, by simp⟩
  · intro i p h
    cases i with
    | zero => exact .inl ⟨rfl, rfl⟩
    | succ i => simp at h
  · intro _
    exact ⟨rfl, 0, by omega, by rw [wN_zero]; rfl, (fun k p h => by cases h)⟩
theorem lenS_ok : NameOK lenS ∧ lenS.size ≤ 2000000 := ⟨⟨[108, 101, 110, 103, 116, 104], by decide, txt_lenS.symm, by decide +kernel⟩, by decide +kernel⟩
theorem New0.makeO {w : World} {n0 O H S N M : Nat} (h : New0 w n0 O H S N M) :
    Calls Tryz.prog 6 #[.pointer (some ⟨O, 0, none⟩), .string objS, .int .i64 0] w fun e w' => e = .returned (.tuple #[.int .i64 1, .int .i64 0]) ∧ Made n0 O H false w w' := by
  refine (make_plain O objS 1 (Made n0 O H false w) w ?_).mono ?_
  · refine (make_face O H objS [] (fun b w' => Made n0 O H false w w') w (by decide +kernel) (cell_at h.face 0 rfl) h.objs 1 ?_).mono fun e w' h2 => ⟨h2.1, h2.2.choose_spec⟩
    intro W hW
    have hW0 := h.kept hW
    refine (make_heap H S n0 [] (.slice none 0 0) objS W hW0.heap (World.ownsRow_nil _ _ _ _) (by simp) hW0.n0w (by decide +kernel)).mono ?_
    rintro e w' ⟨b, v', h1, h2, h3, h4, h5, h6, h7⟩
    have hk : Kx [H] W w' := h7.mono (fun i hi => by simp [Value.ownBlock] at hi; simp [hi])
    refine ⟨b, h1, cell_at h3 4 rfl, b, [], [], ⟨false, 0, 0, v', S, S, N, M, .slice none 0 0, .int .i64 0, .pointer none, .map none, .slice none 0 0, .map none⟩, ?_, rfl, by simp, rfl, by simp, inv_obj, ?_⟩
    · obtain ⟨l1, l2, l3, l4, l5⟩ := h.lo
      have hne : ∀ {x : Nat} {C : Array Value} {t : TypeId}, W.heap[x]? = some (.cells C t (0, 0)) → t ≠ 91 → x ∉ [H] := by
        intro x C t hx ht
        simp only [List.mem_singleton]
        exact cells_ne hx hW0.heap ht
      exact {
        face := hk.get hW0.face (hne hW0.face (by decide))
        heap := h4
        row := h5
        obj := h3
        shp := hk.get hW0.shp (hne hW0.shp (by decide))
        leaf := fun _ => rfl
        nms := hW0.nms.kept hk (hne hW0.nms.1 (by decide)) (by
          simp only [List.mem_singleton]
          exact (imap_cells hW0.nms.2.2 hW0.heap).symm) (fun g hg => by simp [Value.ownBlock] at hg)
        prs := World.ownsRow_nil _ _ _ _
        str := .inl ⟨rfl, rfl⟩
        sep := (fun X hX => by cases hX)
        full := (fun h => absurd rfl h)
        len := rfl
        nd := List.nodup_nil
        ok := (fun x hx => by cases hx)
        lo := ⟨l1, l2, Nat.le_trans hW0.n0w h2, l3, l4, l5⟩
        bL := by simp
        bq := by simp
        bm := by simp
        ql := by simp
        n0w := Nat.le_trans hW0.n0w hk.size }
    · exact (hW.below h.n0w (by simp)).trans (hk.below hW0.n0w (by simp; exact h.lo.2.1))
  · rintro e w' ⟨h1, W, ⟨b, L, P, F, g1, g2, g3, g4, g5, g6, g7⟩, h3⟩
    exact ⟨h1, b, L, P, F, g1.kept0 h3, g2, g3, g4, g5, g6, g7.trans (h3.below g1.n0w (by simp))⟩
theorem New0.makeA {w : World} {n0 O H S N M : Nat} (h : New0 w n0 O H S N M) :
    Calls Tryz.prog 6 #[.pointer (some ⟨O, 0, none⟩), .string arrS, .int .i64 0] w fun e w' => e = .returned (.tuple #[.int .i64 1, .int .i64 0]) ∧ Made n0 O H true w w' := by
  refine (make_plain O arrS 1 (Made n0 O H true w) w ?_).mono ?_
  · refine (make_face O H arrS [] (fun b w' => Made n0 O H true w w') w (by decide +kernel) (cell_at h.face 0 rfl) h.objs 1 ?_).mono fun e w' h2 => ⟨h2.1, h2.2.choose_spec⟩
    intro W hW
    have hW0 := h.kept hW
    obtain ⟨l1, l2, l3, l4, l5⟩ := h.lo
    have iO := lt_get hW0.face
    have iH := lt_get hW0.heap
    have iS := lt_get hW0.shp
    have iN := lt_get hW0.nms.1
    have iM := hW0.nms.2.2.lt
    have nSH := cells_ne hW0.shp hW0.heap (by decide)
    have nNH := cells_ne hW0.nms.1 hW0.heap (by decide)
    have nMH := (imap_cells hW0.nms.2.2 hW0.heap).symm
    have nOH := cells_ne hW0.face hW0.heap (by decide)
    have nOS := cells_ne hW0.face hW0.shp (by decide)
    have nON := cells_ne hW0.face hW0.nms.1 (by decide)
    have nOM := imap_cells hW0.nms.2.2 hW0.face
    let R : World → Prop := fun w' => ∃ S' v' nv', W.heap.size ≤ S' ∧ w'.heap[W.heap.size]? = some (.cells #[.string arrS, .pointer none, .bool false, .nilIface, .int .i64 1, .pointer (some ⟨S', 0, none⟩), nv', .slice none 0 0, .map none, .bool false] 111 (0, 0)) ∧
      w'.heap[S']? = some (.cells #[.pointer (some ⟨N, 0, none⟩), .int .i64 1, .pointer (some ⟨S, 0, none⟩), .map none, .bool false, .bool false] 118 (0, 0)) ∧ NamesAt w' n0 N M 1 v' (.int .i64 0) [lenS] ∧ w'.ownsRow n0 75 10 nv' 1 (prsL [(true, false, false, 0)]) ∧
      (∀ g, v'.ownBlock = some g → W.heap.size ≤ g) ∧ (∀ g, nv'.ownBlock = some g → W.heap.size ≤ g)
    refine (make_arr H S [S, N, M] R arrS W hW0.heap (by decide +kernel) ?_ ?_).mono ?_
    · intro i hi
      simp at hi
      rcases hi with rfl | rfl | rfl
      · exact ⟨iS, nSH⟩
      · exact ⟨iN, nNH⟩
      · exact ⟨iM, nMH⟩
    · intro W2 hk2 hb2
      have s2 := hk2.get hW0.shp (by simpa using nSH)
      have n2 : NamesAt W2 n0 N M 0 (.slice none 0 0) (.int .i64 0) [] := hW0.nms.kept hk2 (by simpa using nNH) (by simpa using nMH) (fun g hg => by simp [Value.ownBlock] at hg)
      refine (name_comes W.heap.size S N M 0 n0 _ _ _ _ _ _ _ _ (.slice none 0 0) (.slice none 0 0) (.int .i64 0) (.pointer none) [] [] lenS (true, false, false, 0) W2 hb2 s2 n2 (World.ownsRow_nil _ _ _ _) (by simp) (by simp) (by omega) (by decide +kernel) (Nat.le_trans hW0.n0w hk2.size) ?_).mono ?_
      · intro W3 hW3
        have c := find_any S N M 0 0 (pf []) lenS (by decide +kernel) W3 (cell_at (hW3.get s2 (by simp)) 0 rfl) (cell_at (hW3.get s2 (by simp)) 1 rfl) (cell_at (hW3.get n2.1 (by simp)) 1 rfl) (hW3.imap n2.2.2 (by simp))
        exact c
      · rintro e w' ⟨hu, S', v', nv', a1, a2, a3, a4, a5, a6, a7, a8⟩
        refine ⟨hu, a8.mono (fun i hi => by simp [Value.ownBlock] at hi; rcases hi with h | h | h | h <;> simp [h]), S', v', nv', Nat.le_trans hk2.size a1, a2, a3, a4, a5, ?_, ?_⟩
        · intro g hg
          rcases a6 g hg with h | h
          · simp [Value.ownBlock] at h
          · exact Nat.le_trans hk2.size h
        · intro g hg
          rcases a7 g hg with h | h
          · simp [Value.ownBlock] at h
          · exact Nat.le_trans hk2.size h
    · rintro e w' ⟨h1, W3, g, cap, ⟨S', v', nv', a1, a2, a3, a4, a5, a6, a7⟩, k3, hg, hH', hrow, k4⟩
      have hf : w'.heap[O]? = some (.cells #[.pointer (some ⟨H, 0, none⟩)] 54 (0, 0)) := k4.get (k3.get hW0.face (by simp only [List.mem_cons, List.not_mem_nil, or_false, not_or]; exact ⟨by omega, nOH, nOS, nON, nOM⟩)) (by simpa using nOH)
      have ob := k4.get a2 (by simp; omega)
      refine ⟨W.heap.size, h1, cell_at ob 4 rfl, W.heap.size, [lenS], [(true, false, false, 0)], ⟨false, 1, 0, .slice (some ⟨g, 0, none⟩) 1 cap, S, S', N, M, v', .int .i64 0, .pointer (some ⟨S, 0, none⟩), .map none, nv', .map none⟩, ?_, rfl, by simp, rfl, by simp, inv_arr, ?_⟩
      · exact {
          face := hf
          heap := hH'
          row := rowBaseLe hrow (Nat.le_trans hW0.n0w k3.size)
          obj := ob
          shp := k4.get a3 (by simp; omega)
          leaf := fun _ => rfl
          nms := a4.kept k4 (by simpa using nNH) (by simpa using nMH) (fun g hg => by have := a6 g hg; simp; omega)
          prs := k4.owns a5 (fun g hg => by have := a7 g hg; simp; omega)
          str := .inl ⟨rfl, rfl⟩
          sep := (fun X hX => by cases hX)
          full := (fun h => absurd rfl h)
          len := rfl
          nd := by simp
          ok := (fun x hx => by simp at hx; subst hx; exact lenS_ok)
          lo := ⟨l1, l2, hW0.n0w, Nat.le_trans hW0.n0w a1, l4, l5⟩
          bL := by simp
          bq := by simp
          bm := by simp
          ql := by simp
          n0w := Nat.le_trans hW0.n0w (Nat.le_trans k3.size k4.size) }
      · have b3 := k3.below hW0.n0w (by
          intro i hi
          simp at hi
          rcases hi with rfl | rfl | rfl | rfl | rfl
          · exact hW0.n0w
          · exact l2
          · exact l3
          · exact l4
          · exact l5)
        exact ((hW.below h.n0w (by simp)).trans b3).trans (k4.below (Nat.le_trans hW0.n0w k3.size) (by simp; exact l2))
  · rintro e w' ⟨h1, W, ⟨b, L, P, F, g1, g2, g3, g4, g5, g6, g7⟩, h3⟩
    exact ⟨h1, b, L, P, F, g1.kept0 h3, g2, g3, g4, g5, g6, g7.trans (h3.below g1.n0w (by simp))⟩
end Go.Proofs.YtmicdbplkfdfnaaGreatDoor
set_option linter.unusedVariables false
namespace Go.Proofs.YtmicdbplkfdfnaaGreatDoor
open Go.RowKit Go.Shelf Go.Maps

theorem nameOK_key {s : ByteArray} (h : NameOK s) : ixOf (unitsS s) < 0 ∧ txt (unitsS s) = s := by
  obtain ⟨us, hu, rfl, hx⟩ := h
  rw [unitsS_txt us hu]
  exact ⟨hx, rfl⟩
theorem rises_nodup {ks : List Nat} (h : Rises ks) : ks.Nodup := List.Pairwise.imp (fun h => Nat.ne_of_lt h) h
theorem allK_place {ks : List Nat} {L : List ByteArray} {i k : Nat} (h : ks[i]? = some k) : (allK ks L)[i]? = some (decS k) := by
  unfold allK
  rw [List.getElem?_append_left (by have := (List.getElem?_eq_some_iff.1 h).1; simpa using this), List.getElem?_map, h]
  rfl
theorem allK_name {ks : List Nat} {L : List ByteArray} {j : Nat} : (allK ks L)[ks.length + j]? = L[j]? := by
  unfold allK
  rw [List.getElem?_append_right (by simp)]
  congr 1
  simp
theorem decS_size {k : Nat} (h : k ≤ 4294967294) : (decS k).size ≤ 200 := by
  obtain ⟨_, _, _, h4, _⟩ := dN_facts 9 k (by omega)
  have e : (decS k).size = (dN k).length := by simp [decS, dN, ByteArray.size]
  omega
/-- What holds while keys are shut: i of them are. -/
structure Inv2 (arr : Bool) (L : List ByteArray) (P : List Pr) (f : Nat → Option Pr) (ks : List Nat) (i : Nat) : Prop where
  don : ∀ (j : Nat) (p : Pr), P[j]? = some p → ks.length + j < i → ShutP p
  opn : ∀ (j : Nat) (p : Pr), P[j]? = some p → ¬ ks.length + j < i → (arr = true ∧ j = 0) ∨ ∃ m, m < 30 ∧ p = (false, true, true, wN m)
  pld : ∀ (k : Nat) (p : Pr), f k = some p → k ∈ ks.take i → ShutP p
  plo : ∀ (k : Nat) (p : Pr), f k = some p → k ∉ ks.take i → ∃ m, m < 30 ∧ p = (false, true, true, wN m)
  pls : ∀ (k : Nat) (p : Pr), f k = some p → k ≤ 4294967294
  len : arr = true → L[0]? = some lenS ∧ ∃ n q0, n ≤ 4294967295 ∧ P[0]? = some (q0, false, false, wN n) ∧ (¬ ks.length < i → q0 = true) ∧ (ks.length < i → q0 = false) ∧ ∀ k p, f k = some p → k + 1 ≤ n
  ris : Rises ks
  dom : ∀ k, k ∈ ks ↔ (f k).isSome = true
  few : ks.length ≤ 30
theorem Inv1.inv2 {arr : Bool} {L : List ByteArray} {P : List Pr} {f : Nat → Option Pr} {c : Nat} (h : Inv1 arr L P f c) (hc : c ≤ 30) : ∃ ks, Inv2 arr L P f ks 0 := by
  obtain ⟨ks, h1, h2, h3⟩ := h.fin
  refine ⟨ks, ?_, ?_, ?_, ?_, ?_, ?_, h1, h3, by omega⟩
  · intro j p _ hj; omega
  · intro j p hp _
    exact h.prs j p hp
  · intro k p _ hk; simp at hk
  · intro k p hp _
    exact (h.pls k p hp).2
  · intro k p hp
    exact (h.pls k p hp).1
  · intro ha
    obtain ⟨g1, n, g2, g3, g4⟩ := h.len ha
    exact ⟨g1, n, true, g2, g3, fun _ => rfl, (fun h => by omega), g4⟩
theorem Inv2.inv4 {arr : Bool} {L : List ByteArray} {P : List Pr} {f : Nat → Option Pr} {ks : List Nat} (h : Inv2 arr L P f ks (allK ks L).length) (hl : P.length = L.length) : Inv4 arr L P f := by
  have e := allK_len ks L
  have ht : ks.take (allK ks L).length = ks := List.take_of_length_le (by omega)
  refine ⟨?_, ?_, ?_⟩
  · intro j p hp
    have hj := (List.getElem?_eq_some_iff.1 hp).1
    exact h.don j p hp (by omega)
  · intro k p hp
    refine ⟨h.pls k p hp, h.pld k p hp ?_⟩
    rw [ht]
    exact (h.dom k).2 (by rw [hp]; rfl)
  · intro ha
    obtain ⟨g1, n, q0, g2, g3, g4, g5, g6⟩ := h.len ha
    have hj := (List.getElem?_eq_some_iff.1 g3).1
    have := g5 (by omega)
    subst this
    exact ⟨g1, n, g2, g3, g6⟩
/-- What stands behind a key that was shut. -/
def Next2 (w : World) (n0 O H b : Nat) (arr : Bool) (L : List ByteArray) (ks : List Nat) (i : Nat) (F : Fp) (w' : World) : Prop :=
  ∃ P' f' F', FSt w' n0 O H b arr false L P' f' F' ∧ Nxt w O H b F w' F' ∧ Inv2 arr L P' f' ks (i + 1)
theorem take_more {ks : List Nat} {i k : Nat} (h : ks[i]? = some k) (t : Nat) : t ∈ ks.take (i + 1) ↔ t = k ∨ t ∈ ks.take i := by
  rw [List.take_add_one, h]
  simp
  exact Or.comm
theorem not_taken {ks : List Nat} (hr : Rises ks) {i k : Nat} (h : ks[i]? = some k) : k ∉ ks.take i := by
  intro hm
  obtain ⟨j, hj, e⟩ := List.mem_take_iff_getElem.1 hm
  obtain ⟨hi1, hi2⟩ := List.getElem?_eq_some_iff.1 h
  have := List.pairwise_iff_getElem.1 hr j i (by omega) hi1 (by omega)
  omega
theorem FSt.shut1 {w : World} {n0 O H b : Nat} {arr : Bool} {L : List ByteArray} {P : List Pr} {f : Nat → Option Pr} {F : Fp} (h : FSt w n0 O H b arr false L P f F) (hE : Env w) {ks : List Nat} {i : Nat} (I : Inv2 arr L P f ks i) (s : ByteArray) (hs : (allK ks L)[i]? = some s) (hsz : s.size ≤ 2000000) (hm : F.m + 1 ≤ 10000) :
    Calls Tryz.prog 7 #[.pointer (some ⟨O, 0, none⟩), .int .i64 1, .string s, .agg #[.bool false, .bool false, .bool false, .bool true, .bool false, .bool true, .int .i64 0, .float .f64 0, .string ⟨#[]⟩, .int .i64 0, .int .i64 0, .int .i64 0, .bool false, .bool false, .bool false]] w fun e w' => e = .returned (.int .i64 0) ∧ Next2 w n0 O H b arr L ks i F w' := by
  have hb := txt_bound s hsz
  by_cases hi : i < ks.length
  · obtain ⟨k, hk⟩ : ∃ k, ks[i]? = some k := ⟨_, List.getElem?_eq_getElem hi⟩
    rw [allK_place hk] at hs
    simp only [Option.some.injEq] at hs
    subst hs
    obtain ⟨p, hp⟩ : ∃ p, f k = some p := Option.isSome_iff_exists.1 ((I.dom k).1 (List.mem_of_getElem? hk))
    have hkb := I.pls k p hp
    have hnt := not_taken I.ris hk
    obtain ⟨m, hm30, rfl⟩ := I.plo k p hp hnt
    refine (h.plain2 (P' := P) (f' := upd f k (false, true, false, wN m)) hE (decS k) hsz ?_).mono fun e w' h2 => ⟨h2.1, ?_⟩
    · intro W hW
      exact (h.kept0 hW).shutPlace (unitsS (decS k)) hb k (ix_decS hkb) hkb (fun ha => by
        obtain ⟨g1, n, q0, g2, g3, g4, g5, g6⟩ := I.len ha
        exact ⟨q0, n, g3, g6 k _ hp, g2⟩) (wN m) hp hm
    · obtain ⟨F', g1, g2⟩ := h2.2
      refine ⟨P, _, F', g1, g2, ?_⟩
      refine ⟨?_, ?_, ?_, ?_, ?_, ?_, I.ris, ?_, I.few⟩
      · intro j p hp hj; omega
      · intro j p hp hj
        exact I.opn j p hp (by omega)
      · intro t p hp ht
        unfold upd at hp
        split at hp
        · simp at hp
          exact ⟨true, m, by omega, hp.symm⟩
        · rename_i hne
          rcases (take_more hk t).1 ht with e | e
          · exact absurd e hne
          · exact I.pld t p hp e
      · intro t p hp ht
        unfold upd at hp
        split at hp
        · rename_i e
          exact absurd ((take_more hk t).2 (.inl e)) ht
        · exact I.plo t p hp (fun h => ht ((take_more hk t).2 (.inr h)))
      · intro t p hp
        unfold upd at hp
        split at hp
        · rename_i e
          omega
        · exact I.pls t p hp
      · intro ha
        obtain ⟨g1, n, q0, g2, g3, g4, g5, g6⟩ := I.len ha
        refine ⟨g1, n, q0, g2, g3, fun _ => g4 (by omega), (fun h => by omega), ?_⟩
        intro t p ht
        unfold upd at ht
        split at ht
        · rename_i e
          rw [e]
          exact g6 k _ hp
        · exact g6 t p ht
      · intro t
        rw [I.dom t]
        unfold upd
        split
        · rename_i e
          rw [e, hp]
          simp
        · rfl
  · obtain ⟨j, rfl⟩ : ∃ j, i = ks.length + j := ⟨i - ks.length, by omega⟩
    rw [allK_name] at hs
    have hok := (h.ok s (List.mem_of_getElem? hs)).1
    obtain ⟨hx, ht⟩ := nameOK_key hok
    have hjl := (List.getElem?_eq_some_iff.1 hs).1
    have hpf : pf L s = some j := (pf_get _ L rfl h.nd _ j).2 hs
    obtain ⟨p, hPj⟩ : ∃ p, P[j]? = some p := ⟨_, List.getElem?_eq_getElem (by rw [h.len]; exact hjl)⟩
    have htake : ks.take (ks.length + j + 1) = ks.take (ks.length + j) := by rw [List.take_of_length_le (by omega), List.take_of_length_le (by omega)]
    have fin : ∀ (p' : Pr) (w' : World), ShutP p' → (arr = true → j = 0 → ∃ n, p = (true, false, false, wN n) ∧ p' = (false, false, false, wN n)) → Shut2 w n0 O H b arr L (P.set j p') f F w' → Next2 w n0 O H b arr L ks (ks.length + j) F w' := by
      rintro p' w' hS hA ⟨F', g1, g2⟩
      refine ⟨_, _, F', g1, g2, ?_⟩
      have hPl : j < P.length := (List.getElem?_eq_some_iff.1 hPj).1
      refine ⟨?_, ?_, ?_, ?_, I.pls, ?_, I.ris, I.dom, I.few⟩
      · intro t q hq ht
        rw [List.getElem?_set] at hq
        split at hq
        · simp at hq; rw [← hq]; exact hS
        · exact I.don t q hq (by omega)
      · intro t q hq ht
        rw [List.getElem?_set, if_neg (by omega)] at hq
        exact I.opn t q hq (by omega)
      · intro k q hq hk
        rw [htake] at hk
        exact I.pld k q hq hk
      · intro k q hq hk
        rw [htake] at hk
        exact I.plo k q hq hk
      · intro ha
        obtain ⟨e1, n, q0, e2, e3, e4, e5, e6⟩ := I.len ha
        by_cases hj0 : j = 0
        · obtain ⟨n', e7, e8⟩ := hA ha hj0
          subst hj0
          rw [hPj, e7] at e3
          simp only [Option.some.injEq, Prod.mk.injEq] at e3
          refine ⟨e1, n, false, e2, ?_, (fun h => by omega), fun _ => rfl, e6⟩
          rw [List.getElem?_set, if_pos rfl, if_pos hPl, e8, e3.2.2.2]
        · refine ⟨e1, n, q0, e2, ?_, (fun h => by omega), (fun _ => e5 (by omega)), e6⟩
          rw [List.getElem?_set, if_neg hj0]
          exact e3
    by_cases hA : arr = true ∧ j = 0
    · obtain ⟨rfl, rfl⟩ := hA
      obtain ⟨e1, n, q0, e2, e3, e4, e5, e6⟩ := I.len rfl
      rw [e1] at hs
      simp only [Option.some.injEq] at hs
      subst hs
      have := e4 (by omega)
      subst this
      refine (h.plain2 (P' := P.set 0 (false, false, false, wN n)) (f' := f) hE lenS hsz ?_).mono fun e w' h2 => ⟨h2.1, fin _ w' ⟨false, n, e2, rfl⟩ (fun _ _ => ⟨n, by rw [hPj] at e3; simpa using e3, rfl⟩) h2.2⟩
      intro W hW
      obtain ⟨k1, k2, k3⟩ := keyN_name hx
      rw [k1, k2, k3, ht]
      exact (h.kept0 hW).shutLen n e2 hpf e3
    · obtain ⟨m, hm30, rfl⟩ : ∃ m, m < 30 ∧ p = (false, true, true, wN m) := by
        rcases I.opn j p hPj (by omega) with h1 | h1
        · exact absurd h1 hA
        · exact h1
      refine (h.plain2 (P' := P.set j (false, true, false, wN m)) (f' := f) hE s hsz ?_).mono fun e w' h2 => ⟨h2.1, fin _ w' ⟨true, m, by omega, rfl⟩ (fun ha hj => absurd ⟨ha, hj⟩ hA) h2.2⟩
      intro W hW
      refine (h.kept0 hW).shutName (unitsS s) hx hb (fun ha => ⟨?_, (List.getElem?_eq_some_iff.1 hPj).1 |> Nat.lt_of_le_of_lt (Nat.zero_le _)⟩) j (by rw [ht]; exact hpf) (wN m) hPj
      intro e
      rw [ht] at e
      have e1 := (I.len ha).1
      rw [e] at hpf
      have := (pf_get _ L rfl h.nd lenS 0).2 e1
      rw [hpf] at this
      simp at this
      exact hA ⟨ha, this⟩
/-- What Own tells of a key, when all is shut. -/
theorem Inv4.look {arr : Bool} {L : List ByteArray} {P : List Pr} {f : Nat → Option Pr} (I : Inv4 arr L P f) (hl : P.length = L.length) (hnd : L.Nodup) (hok : ∀ x ∈ L, NameOK x) {ks : List Nat} (hdom : ∀ k, k ∈ ks ↔ (f k).isSome = true) {i : Nat} {s : ByteArray} (hs : (allK ks L)[i]? = some s) :
    ∃ e n, n ≤ 4294967295 ∧ look L P f (unitsS s) = some (false, e, false, wN n) := by
  by_cases hi : i < ks.length
  · obtain ⟨k, hk⟩ : ∃ k, ks[i]? = some k := ⟨_, List.getElem?_eq_getElem hi⟩
    rw [allK_place hk] at hs
    simp only [Option.some.injEq] at hs
    subst hs
    obtain ⟨p, hp⟩ : ∃ p, f k = some p := Option.isSome_iff_exists.1 ((hdom k).1 (List.mem_of_getElem? hk))
    obtain ⟨hkb, e, n, hn, rfl⟩ := I.pls k p hp
    exact ⟨e, n, hn, by rw [look_place (ix_decS hkb), hp]⟩
  · obtain ⟨j, rfl⟩ : ∃ j, i = ks.length + j := ⟨i - ks.length, by omega⟩
    rw [allK_name] at hs
    obtain ⟨hx, ht⟩ := nameOK_key (hok s (List.mem_of_getElem? hs))
    have hjl := (List.getElem?_eq_some_iff.1 hs).1
    obtain ⟨p, hPj⟩ : ∃ p, P[j]? = some p := ⟨_, List.getElem?_eq_getElem (by rw [hl]; exact hjl)⟩
    obtain ⟨e, n, hn, rfl⟩ := I.prs j p hPj
    refine ⟨e, n, hn, ?_⟩
    rw [look_name hx, ht, (pf_get _ L rfl hnd _ j).2 hs]
    exact hPj
end Go.Proofs.YtmicdbplkfdfnaaGreatDoor
