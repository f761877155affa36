/- The walk of the law UnitsTurned. -/
import Derived.Test.YtmjnmnnfpcaogaaDoorTrim
import Derived.Test.YtmjnmnnfpcaogaaDoorMappedL
import Derived.Test.YtmjnmnnfpcaogaaDoorCasedL
set_option linter.unusedVariables false
namespace Go.Proofs.YtmjnmnnfpcaogaaDoor
open Go.RowKit Go.Shelf Go.Lib

set_option maxHeartbeats 1000000 in
theorem upper_any (s : ByteArray) (hs : s.size ≤ 100000) (w : World) (hT : Lib.Utf8Tabs 1 2 w) (hV : CaseVar 3 caseA w) :
    Calls Tryd.prog 11 #[.string s] w fun e W' => e = .returned (.string (mapT Un.upN (unitsS s))) ∧ Below w.heap.size w W' := by
  have hul := unitsS_len s
  have c := mapUpper_any s hs (by omega) (unitsS_lt s) w hT hV
  clear hul
  generalize mapT Un.upN (unitsS s) = T at *
  go_enter Tryd.func11, Tryd.ntmps11
  go_wp2_with (go_at_call 25; refine c.mono ?_; rintro e w' ⟨rfl, hb⟩)
  go_ret
  exact ⟨rfl, hb⟩
set_option maxHeartbeats 1000000 in
theorem lower_any (s : ByteArray) (hs : s.size ≤ 100000) (w : World) (hT : Lib.Utf8Tabs 1 2 w) (hV : CaseVar 3 caseA w) :
    Calls Tryd.prog 12 #[.string s] w fun e W' => e = .returned (.string (mapT Un.loN (unitsS s))) ∧ Below w.heap.size w W' := by
  have hul := unitsS_len s
  have c := mapLower_any s hs (by omega) (unitsS_lt s) w hT hV
  clear hul
  generalize mapT Un.loN (unitsS s) = T at *
  go_enter Tryd.func12, Tryd.ntmps12
  go_wp2_with (go_at_call 25; refine c.mono ?_; rintro e w' ⟨rfl, hb⟩)
  go_ret
  exact ⟨rfl, hb⟩

theorem mapU_lt {f : Int → Int} {g : Nat → Nat} (hg : Un.Maps f g) (rs : List Nat) (hr : ∀ r ∈ rs, r ≤ 1114111) : ∀ u ∈ mapU g rs, u < 65536 := by
  intro u hu
  obtain ⟨y, hy, hu⟩ := List.mem_flatMap.1 hu
  obtain ⟨r, hr', rfl⟩ := List.mem_map.1 hy
  exact Un.unR_lt _ (hg.le r (hr r hr')) u hu
theorem mapU_len (g : Nat → Nat) : ∀ (rs : List Nat), (mapU g rs).length ≤ 2 * rs.length
  | [] => by simp [mapU]
  | r :: rs => by
    have h1 := mapU_len g rs
    have h2 := (Un.unR_len (g r)).2
    rw [mapU_cons, List.length_append, List.length_cons]
    omega
theorem txt_mapU {f : Int → Int} {g : Nat → Nat} (hg : Un.Maps f g) (us : List Nat) (hu : ∀ u ∈ us, u < 65536) : txt (mapU g (Un.pts us)) = mapT g us := by
  have hb := Un.pts_lt us hu
  unfold txt txtB mapT mapU
  rw [Un.pts_flat _ (fun r hr => by obtain ⟨x, hx, rfl⟩ := List.mem_map.1 hr; exact hg.le x (hb x hx)) (Un.noPair_map f g hg _ hb (Un.pts_noPair us))]
theorem mem_dropWhile {p : Nat → Bool} : ∀ {l : List Nat} {x : Nat}, x ∈ l.dropWhile p → x ∈ l
  | [], _, h => by simp at h
  | a :: l, x, h => by
    rw [List.dropWhile_cons] at h
    split at h
    · exact List.mem_cons_of_mem _ (mem_dropWhile h)
    · exact h
theorem len_dropWhile {p : Nat → Bool} : ∀ (l : List Nat), (l.dropWhile p).length ≤ l.length
  | [] => by simp
  | a :: l => by
    rw [List.dropWhile_cons]
    split
    · have := len_dropWhile (p := p) l
      simp
      omega
    · exact Nat.le_refl _
theorem trimU_lt (us : List Nat) (hu : ∀ u ∈ us, u < 65536) : ∀ u ∈ trimU us, u < 65536 := by
  intro u h
  unfold trimU rtrim ltrim at h
  rw [List.mem_reverse] at h
  have h1 := mem_dropWhile h
  rw [List.mem_reverse] at h1
  exact hu u (mem_dropWhile h1)
theorem trimU_len (us : List Nat) : (trimU us).length ≤ us.length := by
  unfold trimU rtrim ltrim
  rw [List.length_reverse]
  have h1 := len_dropWhile (p := whiteU) (us.dropWhile whiteU).reverse
  have h2 := len_dropWhile (p := whiteU) us
  rw [List.length_reverse] at h1
  omega

theorem set_block {W : World} {g k : Nat} {cur : Array Value} {t : TypeId} {fr : Nat × Nat} (h : W.heap[g]? = some (.cells cur t fr)) (v : Value) : ∃ cur', (W.setCell ⟨g, k, none⟩ v).heap[g]? = some (.cells cur' t fr) ∧ cur'.size = cur.size := by
  obtain ⟨hlt, hk⟩ := Array.getElem?_eq_some_iff.1 h
  refine ⟨cur.setIfInBounds k v, ?_, by simp⟩
  show (W.heap.modify g _)[g]? = _
  rw [Array.getElem?_eq_getElem (by rw [Array.size_modify]; exact hlt), Array.getElem_modify_self, hk]
  rfl

set_option maxRecDepth 100000 in
set_option maxHeartbeats 1000000 in
theorem turned_great (s : ByteArray) (h : 4000 < s.size) (hm : s.size ≤ maxLen) (w : World) :
    Calls Tryd.prog 3 #[.string s] w fun e w' => e = .returned (.bool true) ∧ Below w.heap.size w w' := by
  unfold maxLen at hm
  have h' : (4000 : Int) < (s.size : Int) := by omega
  go_enter Tryd.func3, Tryd.ntmps3
  go_wp2
  go_ret
  exact ⟨rfl, Below.refl _ _⟩
end Go.Proofs.YtmjnmnnfpcaogaaDoor
