/- The walk of Text: the text of units. -/
import Derived.Test.YtmjnmnnfpcaogaaDoorPoints
import Derived.RangeFuncNested
import Derived.Laws.IdiomStrings
set_option linter.unusedVariables false
namespace Go.Proofs.YtmjnmnnfpcaogaaDoor
open Go.RowKit Go.Shelf
attribute [local go_sem] Oper.semAt_some

/-- The bytes of units. -/
def txtB (us : List Nat) : List Nat := (Un.pts us).flatMap Un.encR
/-- The text of units. -/
def txt (us : List Nat) : ByteArray := ⟨((txtB us).map UInt8.ofNat).toArray⟩
/-- The bytes of the code points that have come. -/
def preB (pre : List Pt) : List Nat := (pre.map Subtype.val).flatMap Un.encR
theorem preB_snoc (pre : List Pt) (x : Pt) : preB (pre ++ [x]) = preB pre ++ Un.encR x.val := by simp [preB]
theorem preB_len (pre : List Pt) : (preB pre).length ≤ 4 * pre.length := by
  induction pre with
  | nil => simp [preB]
  | cons x t ih =>
    have h := (Un.encR_len x.val).2
    have e : preB (x :: t) = Un.encR x.val ++ preB t := by simp [preB]
    rw [e, List.length_append, List.length_cons]
    omega
theorem preB_lt (pre : List Pt) : ∀ b ∈ preB pre, b < 256 := by
  intro b hb
  obtain ⟨r, hr, hb⟩ := List.mem_flatMap.1 hb
  obtain ⟨x, _, rfl⟩ := List.mem_map.1 hr
  exact Un.encR_lt x.val x.2 b hb

theorem ownsRow_pos {W : World} {base : Nat} {e : TypeId} {size : Nat} {v : Value} {k : Nat} {xs : List Value} (hk : 0 < k) (h : W.ownsRow base e size v k xs) : ∃ g cap, v = .slice (some ⟨g, 0, none⟩) k cap := by
  rcases h.2 with ⟨_, h0⟩ | ⟨g, cap, _, rfl, _⟩
  · omega
  · exact ⟨g, cap, rfl⟩

/-- string(b) of a row of bytes. -/
theorem conv_row {W : World} {base : Nat} {g cap : Nat} {bs : List Nat} (hb : ∀ b ∈ bs, b < 256) (h : W.ownsRow base 5 1 (.slice (some ⟨g, 0, none⟩) bs.length cap) bs.length (bs.map bv)) :
    (convert 35 9 (.slice (some ⟨g, 0, none⟩) bs.length cap)).run Tryd.prog W = .ok (.string ⟨(bs.map UInt8.ofNat).toArray⟩) W := by
  have hc := h.cells (g := g) rfl
  have := run_convert_bytes_back (P := Tryd.prog) W 35 9 5 ⟨g, 0, none⟩ cap (bs.map UInt8.ofNat) Tryd.underlying35 Tryd.underlying5 Tryd.underlying9 (fun j hj => by
    rw [List.length_map] at hj
    have h1 := hc j (bv bs[j]) (by simp [hj])
    rw [h1]
    have h2 : bs[j] < 256 := hb _ (List.getElem_mem hj)
    simp [bv, List.getElem_map, UInt8.toNat_ofNat', Nat.mod_eq_of_lt h2])
  simpa using this

set_option maxRecDepth 100000 in
set_option maxHeartbeats 2000000 in
theorem text_any (sv : Value) (us : List Nat) (hu : ∀ u ∈ us, u < 65536) (hlen : us.length ≤ 200000) (w : World) (hL : Row16 w.heap.size w sv us) :
    Calls Tryd.prog 8 #[sv] w fun e W' => e = .returned (.string (txt us)) ∧ Below w.heap.size w W' := by
  obtain ⟨sa, sc, rfl⟩ := hL.slice
  refine (callsIn_wide (n := 5)).1 ?_
  obtain ⟨i0, hi, hz0, hz1, hz2⟩ := info_parts info5
  refine callsIn_of_wp_marks Tryd.func8 rfl trivial ?_ rfl
  simp only [Tryd.ntmps8, List.size_toArray, List.length_cons, List.length_nil, Nat.reduceAdd, Nat.reduceSub, Array.replicate_succ, Array.replicate_zero, List.push_toArray, List.append_toArray, List.nil_append, List.cons_append]
  gi_wp2_with (first
    | (refine wpListIn_make_own _ rfl _ _ 35 rfl w.heap.size 5 i0 (.int .u8 0) 1 Tryd.underlying35 hi hz0 hz1 .i64 .i64 _ us.length rfl rfl rfl (by rw [hz2]; omega) (by unfold maxLen; omega) (Nat.le_refl _) ?_; intro w1 hown0 hg0)
    | (refine ⟨trivial, ?_⟩; gi_at_call 18; refine (points_in Fence.wide _ trivial rfl _ ⟨_, _, _, rfl⟩ _).mono ?_; rintro e w' ⟨rfl, rfl⟩))
  have hs0 := hg0.size
  have hrow1 := (hown0.alloc (.cells #[.slice (some ⟨w.heap.size, 0, none⟩) 0 us.length] 35)).alloc (.cells #[.slice sa us.length sc] 22)
  have bO := (Boxed.new w1 35 (.slice (some ⟨w.heap.size, 0, none⟩) 0 us.length)).alloc (.cells #[.slice sa us.length sc] 22)
  have bN := Boxed.new (w1.alloc (.cells #[.slice (some ⟨w.heap.size, 0, none⟩) 0 us.length] 35)) 22 (.slice sa us.length sc)
  rw [World.size_alloc] at bN
  have hb1 : Below w.heap.size w w1 := (Below.refl _ w).grown hg0 (Nat.le_refl _) (fun k e => by cases e)
  have hB0 : Below w.heap.size w ((w1.alloc (.cells #[.slice (some ⟨w.heap.size, 0, none⟩) 0 us.length] 35)).alloc (.cells #[.slice sa us.length sc] 22)) := (hb1.alloc hs0 _).alloc (by simp; omega) _
  obtain ⟨rb, hrb, hrb0, hrb1, hstops⟩ := points_stops Fence.wide 4 trivial trivial trivial trivial rfl (by omega) (w1.heap.size + 1) w.heap.size (.slice sa us.length sc) us hu hlen _ (by simp) (by simp; omega) bN.cell (hL.below hB0)
  refine wpIn_rangeFunc_ownG rfl (by omega) (gf := 29) (lb := #[.pointer (some ⟨w1.heap.size + 1, 0, none⟩)]) rfl trivial (enters_of Tryd.func29 (by kernel_rfl) rfl)
    hstops Kb.trans (Kb.putObj hrb (by simp)) (Below.refl _ _) (fun _ => rfl)
    (fun pre W => ((∃ v, Boxed W w1.heap.size 35 v ∧ W.ownsRow w.heap.size 5 1 v (preB pre).length ((preB pre).map bv) ∧ (∃ g cap, v = .slice (some ⟨g, 0, none⟩) (preB pre).length cap)) ∧ Boxed W (w1.heap.size + 1) 22 (.slice sa us.length sc)) ∧ Below w.heap.size w W)
    (fun _ _ _ => False)
    (OwnFrom.and (OwnFrom.and (Own.from (holdsRow_own w.heap.size w1.heap.size 35 5 1 (fun pre => (preB pre).length) (fun pre => (preB pre).map bv) (fun pre v => ∃ g cap, v = .slice (some ⟨g, 0, none⟩) (preB pre).length cap)) _) (Own.from (boxed_own _ _ (fun _ => _)) _)) (ownFrom_below (Nat.le_refl _) (by simp; omega)))
    (fun _ _ _ _ _ hs _ _ => hs)
    ⟨⟨⟨_, bO, hrow1, ⟨_, _, rfl⟩⟩, bN⟩, hB0⟩
    (fun x => { tmps := #[.slice sa us.length sc, undef, .string { data := #[] }, .pointer (some ⟨w1.heap.size, 0, none⟩), .int .i32 ((x.val : Nat) : Int), .slice sa us.length sc, .int .i64 (us.length : Int), .slice (some ⟨w.heap.size, 0, none⟩) 0 us.length, .slice sa us.length sc, .func (.func 29) #[] #[.pointer (some ⟨w1.heap.size + 1, 0, none⟩)], .int .i32 ((x.val : Nat) : Int), undef, undef, undef, undef, undef], defers := [] }) ?assign ?body ?done ?stop
  case assign =>
    intro l x W K hK
    gi_wp2
    exact hK
  case body =>
    rintro l pre x W ⟨⟨⟨v, hv, hrow, g0, cap0, rfl⟩, hN⟩, hB⟩ hlt
    have hc := hv.cell
    have hpl := preB_len pre
    have hel := Un.encR_len x.val
    have hap := appendText_any w.heap.size (.slice (some ⟨g0, 0, none⟩) (preB pre).length cap0) (preB pre).length ((preB pre).map bv) x.val x.2 W hrow (by omega) hB.size
    gi_wp2_with (refine ⟨trivial, ?_⟩; gi_at_call 19; refine (CallsIn.inRound l (callsIn_wide.2 hap)).mono ?_; rintro e w2 ⟨v', rfl, hown', o2, hgrow⟩; obtain ⟨g', cap', rfl⟩ := ownsRow_pos (by omega) hown'; obtain ⟨hv1, hv2, hr2, hk2, hb2⟩ := hv.appended (by decide) hrow hB.size (by omega) hown' hgrow; have hc1 := hv1.cell; have hf1 := hv1.frozen)
    have hN2 : Boxed w2 (w1.heap.size + 1) 22 (.slice sa us.length sc) := (hN.alloc o2).kept hgrow (hN.not_row (by decide) hrow)
    have hN3 := hN2.other (B' := w1.heap.size) (by omega) (.slice (some ⟨g', 0, none⟩) ((preB pre).length + (Un.encR x.val).length) cap')
    have e1 : (preB (pre ++ [x])).length = (preB pre).length + (Un.encR x.val).length := by rw [preB_snoc, List.length_append]
    have e2 : (preB (pre ++ [x])).map bv = (preB pre).map bv ++ (Un.encR x.val).map bv := by rw [preB_snoc, List.map_append]
    exact ⟨hk2.from _, ⟨hb2.block rb (hrb1 (fun e => by rw [e] at hlt; simp at hlt)).1, hN3.trans hN.symm⟩, ⟨⟨_, hv2, by rw [e1, e2]; exact hr2, g', cap', by rw [e1]⟩, hN3⟩, hB.trans hb2⟩
  case done =>
    rintro D ys W hD hys ⟨⟨⟨v, hv, hrow, g0, cap0, rfl⟩, hN⟩, hB⟩ hK
    have hc := hv.cell
    have hcv := conv_row (preB_lt ys) hrow
    have ht : (⟨((preB ys).map UInt8.ofNat).toArray⟩ : ByteArray) = txt us := by unfold txt txtB preB; rw [hys]
    rw [ht] at hcv
    clear ht hys
    gi_wp2
    refine ⟨by simp, .inl ⟨_, _, rfl, run_takeDeferred hK, ?_⟩⟩
    exact ⟨_, results_tmp rfl _ _ _, rfl, hB.trans (belowK_b (w := w) (Nat.le_refl _) W D _ _ (by simp at hD; omega) hK rfl rfl)⟩
  case stop =>
    rintro D c pre W _ _ h _
    exact h.elim
end Go.Proofs.YtmjnmnnfpcaogaaDoor
