/- The walk of mapped with ToLower. -/
import Derived.Test.YtmjnmnnfpcaogaaDoorMapped
set_option linter.unusedVariables false
namespace Go.Proofs.YtmjnmnnfpcaogaaDoor
open Go.RowKit Go.Shelf Go.Lib
attribute [local go_sem] Oper.semAt_some

set_option maxRecDepth 100000 in
set_option maxHeartbeats 4000000 in
theorem mapLower_any (s : ByteArray) (hs : s.size ≤ 100000) (hul : (unitsS s).length ≤ 200000) (hub : ∀ u ∈ unitsS s, u < 65536) (w : World) (hT : Lib.Utf8Tabs 1 2 w) (hV : CaseVar 3 caseA w) :
    Calls Tryd.prog 25 #[.string s, .func (.func 24) #[] #[]] w fun e W' => e = .returned (.string (mapT Un.loN (unitsS s))) ∧ Below w.heap.size w W' := by
  have cU := fun W (hW : Below w.heap.size w W) => units_any s hs W (tabs_below hT hW)
  generalize unitsS s = U at *
  refine (callsIn_wide (n := 5)).1 ?_
  obtain ⟨i0, hi, hz0, hz1, hz2⟩ := info_parts info5
  have KU := (show Hid _ from cU)
  clear cU
  refine callsIn_of_wp_marks Tryd.func25 rfl trivial ?_ rfl
  simp only [Tryd.ntmps25, List.size_toArray, List.length_cons, List.length_nil, Nat.reduceAdd, Nat.reduceSub, Array.replicate_succ, Array.replicate_zero, List.push_toArray, List.append_toArray, List.nil_append, List.cons_append]
  gi_wp2_with (refine wpListIn_make_own _ rfl _ _ 35 rfl w.heap.size 5 i0 (.int .u8 0) 1 Tryd.underlying35 hi hz0 hz1 .i64 .i64 _ s.size rfl rfl rfl (by rw [hz2]; omega) (by unfold maxLen; omega) (by simp) ?_; intro w1 hown0 hg0)
  have hs0 := hg0.size
  simp only [World.size_alloc] at hs0 hown0
  have bT0 : Boxed w1 w.heap.size 41 (.func (.func 24) #[] #[]) := (Boxed.new w 41 (.func (.func 24) #[] #[])).kept hg0 (by simp)
  have hb1 : Below w.heap.size w w1 := ((Below.refl _ w).alloc (Nat.le_refl _) (.cells #[.func (.func 24) #[] #[]] 41)).grown hg0 (by simp) (fun k e => by cases e)
  have hbW2 : Below w.heap.size w (w1.alloc (.cells #[.slice (some ⟨w.heap.size + 1, 0, none⟩) 0 s.size] 35)) := hb1.alloc hb1.size _
  refine ⟨trivial, (callsIn_wide.2 (KU.out _ hbW2)).mono ?_⟩
  rintro e w3 ⟨v, rfl, hownU, hnilU, hb3⟩
  clear hnilU
  have hs3 := hb3.size
  simp only [World.size_alloc] at hs3
  obtain ⟨va, vm, vc, rfl⟩ : ∃ a m c, v = .slice a m c := by
    rcases hownU.2 with ⟨rfl, _⟩ | ⟨g, cap, cur, rfl, _⟩
    · exact ⟨_, _, _, rfl⟩
    · exact ⟨_, _, _, rfl⟩
  have hB3 : Below w.heap.size w w3 := hbW2.trans (hb3.mono hbW2.size)
  gi_wp2_with (refine ⟨trivial, ?_⟩; gi_at_call 18; refine (points_in Fence.wide _ trivial rfl _ ⟨va, vm, vc, rfl⟩ _).mono ?_; rintro e w' ⟨rfl, rfl⟩)
  have hgU := below_grown hb3
  have bT := ((bT0.alloc (.cells #[.slice (some ⟨w.heap.size + 1, 0, none⟩) 0 s.size] 35)).kept hgU (by simp)).alloc (.cells #[.slice va vm vc] 22)
  have bO := ((Boxed.new w1 35 (.slice (some ⟨w.heap.size + 1, 0, none⟩) 0 s.size)).kept hgU (by simp)).alloc (.cells #[.slice va vm vc] 22)
  have bN := Boxed.new w3 22 (.slice va vm vc)
  have hrow1 := ((hown0.alloc (.cells #[.slice (some ⟨w.heap.size + 1, 0, none⟩) 0 s.size] 35)).kept hgU (.inr (by simp [Value.ownBlock]))).alloc (.cells #[.slice va vm vc] 22)
  have hB4 : Below w.heap.size w (w3.alloc (.cells #[.slice va vm vc] 22)) := hB3.alloc hB3.size _
  have hRU : Row16 w3.heap.size (w3.alloc (.cells #[.slice va vm vc] 22)) (.slice va vm vc) U := (row16_of_owns hownU).below ((Below.refl _ _).alloc (Nat.le_refl _) _)
  obtain ⟨rb, hrb, hrb0, hrb1, hstops⟩ := points_stops Fence.wide 4 trivial trivial trivial trivial rfl (by omega) w3.heap.size w3.heap.size (.slice va vm vc) U hub hul _ (by simp) (by simp) bN.cell hRU
  obtain ⟨cur, t0, fr, hrbc, ht5, ht35⟩ : ∃ cur t0 fr, (w3.alloc (.cells #[.slice va vm vc] 22)).heap[rb]? = some (.cells cur t0 fr) ∧ t0 ≠ 5 ∧ t0 ≠ 35 := by
    by_cases hU : U = []
    · rw [hrb0 hU]
      exact ⟨_, _, _, bN, by decide, by decide⟩
    · obtain ⟨_, off, cap, e⟩ := hrb1 hU
      rcases hownU.2 with ⟨_, h0⟩ | ⟨g, cap', cur, e', _, hgb, _⟩
      · exact absurd (List.eq_nil_of_length_eq_zero h0) hU
      · rw [e'] at e
        cases e
        exact ⟨cur, 24, _, (Below.heap_alloc w3 _ _ (Array.getElem?_eq_some_iff.1 hgb).1).trans hgb, by decide, by decide⟩
  have hne : rb ≠ w1.heap.size := fun e => by
    rw [e] at hrbc
    have := (show (w3.alloc (.cells #[.slice va vm vc] 22)).heap[w1.heap.size]? = _ from bO).symm.trans hrbc
    simp at this
    exact ht35 this.2.1.symm
  refine wpIn_rangeFunc_ownG rfl (by omega) (gf := 29) (lb := #[.pointer (some ⟨w3.heap.size, 0, none⟩)]) rfl trivial (enters_of Tryd.func29 (by kernel_rfl) rfl)
    hstops Kb.trans (Kb.putObj hrb (by simp)) (Below.refl _ _) (fun _ => rfl)
    (fun pre W => (((∃ v', Boxed W w1.heap.size 35 v' ∧ W.ownsRow w.heap.size 5 1 v' (preM Un.loN pre).length ((preM Un.loN pre).map bv) ∧ (∃ g cap, v' = .slice (some ⟨g, 0, none⟩) (preM Un.loN pre).length cap)) ∧ Boxed W w3.heap.size 22 (.slice va vm vc)) ∧ (Boxed W w.heap.size 41 (.func (.func 24) #[] #[]) ∧ W.heap[rb]? = some (.cells cur t0 fr))) ∧ Below w.heap.size w W)
    (fun _ _ _ => False)
    (OwnFrom.and (OwnFrom.and (OwnFrom.and (Own.from (holdsRow_own w.heap.size w1.heap.size 35 5 1 (fun pre => (preM Un.loN pre).length) (fun pre => (preM Un.loN pre).map bv) (fun pre v' => ∃ g cap, v' = .slice (some ⟨g, 0, none⟩) (preM Un.loN pre).length cap)) _) (Own.from (boxed_own _ _ (fun _ => _)) _)) (OwnFrom.and (Own.from (boxed_own _ _ (fun _ => _)) _) (Own.from (cells_own rb cur t0 fr) _))) (ownFrom_below (Nat.le_refl _) (by simp; omega)))
    (fun _ _ _ _ _ hs _ _ => hs)
    ⟨⟨⟨⟨_, bO, hrow1, ⟨_, _, rfl⟩⟩, bN⟩, bT, hrbc⟩, hB4⟩
    (fun x => { tmps := #[.string s, .func (.func 24) #[] #[], undef, .pointer (some ⟨w.heap.size, 0, none⟩), .string { data := #[] }, .pointer (some ⟨w1.heap.size, 0, none⟩), .int .i32 ((x.val : Nat) : Int), .string s, .int .i64 (s.size : Int), .slice (some ⟨w.heap.size + 1, 0, none⟩) 0 s.size, .string s, .slice va vm vc, .func (.func 29) #[] #[.pointer (some ⟨w3.heap.size, 0, none⟩)], .int .i32 ((x.val : Nat) : Int), undef, undef, undef, undef, undef, undef, undef], defers := [] }) ?assign ?body ?done ?stop
  case assign =>
    intro l x W K hK
    gi_wp2
    exact hK
  case body =>
    rintro l pre x W ⟨⟨⟨⟨v', hv', hrow, g0, cap0, rfl⟩, hN⟩, hTo, hRb⟩, hB⟩ hlt
    have hc := hv'.cell
    have hcT := hTo.cell
    have hpl := preM_len Un.loN pre
    have hel := Un.encR_len (Un.loN x.val)
    have cTo := fun W (h : Below w.heap.size w W) => Tryd.unicode_ToLower_laid ((x.val : Nat) : Int) W (CaseVar_below hV h)
    rw [Un.maps_lo.eq x.val x.2] at cTo
    have hap := fun W (h1 : W.ownsRow w.heap.size 5 1 (.slice (some ⟨g0, 0, none⟩) (preM Un.loN pre).length cap0) (preM Un.loN pre).length ((preM Un.loN pre).map bv)) (h2 : w.heap.size ≤ W.heap.size) => appendText_any w.heap.size (.slice (some ⟨g0, 0, none⟩) (preM Un.loN pre).length cap0) (preM Un.loN pre).length ((preM Un.loN pre).map bv) (Un.loN x.val) (Un.maps_lo.le x.val x.2) W h1 (by omega) h2
    have KT := (show Hid _ from cTo)
    have KA := (show Hid _ from hap)
    clear cTo hap
    obtain ⟨y, hy⟩ : ∃ y, Un.loN x.val = y := ⟨_, rfl⟩
    rw [hy] at KT KA hel
    have HY := (show Hid _ from hy)
    clear hy
    have hmx : Tryd.prog.follows .mixedOrders = true := by kernel_rfl
    have fw24 : Fence.wide.fn 24 := trivial
    have fw19 : Fence.wide.fn 19 := trivial
    gi_wp2
    gi_region_with_o (first
      | (gi_at_call 24; refine (CallsIn.inRound l (callsIn_wide.2 (KT.out _ (by first | exact hB | exact hB.drew)))).mono ?_; rintro e w4 ⟨rfl, q, rfl⟩)
      | (gi_at_call 19; refine (CallsIn.inRound l (callsIn_wide.2 (KA.out _ (by exact hrow) (by exact hB.size)))).mono ?_; rintro e w5 ⟨v5, rfl, hown', o, hgrow⟩; obtain ⟨g', cap', rfl⟩ := ownsRow_pos (by omega) hown'; obtain ⟨hv1, hv2, hr2, hk2, hb2⟩ := @Boxed.appended _ w5 w.heap.size w1.heap.size 35 5 1 _ _ _ _ _ _ _ (by exact hv') (by decide) (by exact hrow) (by exact hB.size) (by omega) hown' hgrow; have hc1 := hv1.cell; have hf1 := hv1.frozen))
    all_goals
      gi_wp2
      have hN3 := kept_block (o := o) (w5 := w5) (by exact hN) (by exact hrow) (by decide) (show w3.heap.size ≠ w1.heap.size by omega) hgrow (.slice (some ⟨g', 0, none⟩) ((preM Un.loN pre).length + (Un.encR y).length) cap')
      have hT3 := kept_block (o := o) (w5 := w5) (by exact hTo) (by exact hrow) (by decide) (show w.heap.size ≠ w1.heap.size by omega) hgrow (.slice (some ⟨g', 0, none⟩) ((preM Un.loN pre).length + (Un.encR y).length) cap')
      have hR3 := kept_block (o := o) (w5 := w5) (by exact hRb) (by exact hrow) ht5 hne hgrow (.slice (some ⟨g', 0, none⟩) ((preM Un.loN pre).length + (Un.encR y).length) cap')
      have hBf : Below w.heap.size w _ := Below.trans (by exact ⟨hB.os, hB.tape, hB.output, hB.size, hB.block⟩) hb2
      have e1 : (preM Un.loN (pre ++ [x])).length = (preM Un.loN pre).length + (Un.encR y).length := by rw [preM_snoc, List.length_append, HY.out]
      have e2 : (preM Un.loN (pre ++ [x])).map bv = (preM Un.loN pre).map bv ++ (Un.encR y).map bv := by rw [preM_snoc, List.map_append, HY.out]
      exact ⟨(show KeepsOthers W _ from ⟨hk2.size, hk2.same⟩).from _, ⟨hR3.trans hRb.symm, hN3.trans hN.symm⟩, ⟨⟨⟨_, hv2, by rw [e1, e2]; exact hr2, g', cap', by rw [e1]⟩, hN3⟩, hT3, hR3⟩, hBf⟩
  case done =>
    rintro D ys W hD hys ⟨⟨⟨⟨v', hv', hrow, g0, cap0, rfl⟩, hN⟩, hTo, hRb⟩, hB⟩ hK
    have hc := hv'.cell
    have hcv := conv_row (preM_lt Un.maps_lo ys) hrow
    have ht : (⟨((preM Un.loN ys).map UInt8.ofNat).toArray⟩ : ByteArray) = mapT Un.loN U := by unfold mapT preM; rw [hys]
    rw [ht] at hcv
    clear ht hys
    gi_wp2
    refine ⟨by simp, .inl ⟨_, _, rfl, run_takeDeferred hK, ?_⟩⟩
    exact ⟨_, results_tmp rfl _ _ _, rfl, hB.trans (belowK_b (w := w) (Nat.le_refl _) W D _ _ (by simp at hD; omega) hK rfl rfl)⟩
  case stop =>
    rintro D c pre W _ _ h _
    exact h.elim
end Go.Proofs.YtmjnmnnfpcaogaaDoor
