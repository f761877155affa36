/- part, walked. -/
import Derived.Test.YtellndmbllmjgaaGreatDoorCUt2x
import Derived.Stop.RegionWithIn
import Derived.Test.YtellndmbllmjgaaGreatDoorCDp3x
set_option linter.unusedVariables false
namespace Go.Proofs.YtellndmbllmjgaaGreatDoor
open Go.RowKit Go.Shelf Go.Sort Fs Fl
attribute [local go_sem] Oper.semAt_some

/-- A round of the division. -/
def pst (d : Nat) (s : List Nat × Nat) (i : Nat) : List Nat × Nat := (s.1.set i ((s.2 * 4294967296 + s.1[i]?.getD 0) / d), (s.2 * 4294967296 + s.1[i]?.getD 0) % d)
def pfold (d : Nat) (L : List Nat) (is : List Nat) : List Nat × Nat := is.foldl (pst d) (L, 0)
theorem pfold_snoc (d : Nat) (L is : List Nat) (i : Nat) : pfold d L (is ++ [i]) = pst d (pfold d L is) i := by unfold pfold; rw [List.foldl_append]; rfl
theorem pst_ok {d : Nat} (hd : 0 < d) {s : List Nat × Nat} (hW : W32 s.1) (hl : s.2 < d) (i : Nat) : W32 (pst d s i).1 ∧ (pst d s i).2 < d ∧ (pst d s i).1.length = s.1.length := by
  refine ⟨w32_set hW ?_, Nat.mod_lt _ hd, by simp [pst]⟩
  have := w32_get hW i
  rw [Nat.div_lt_iff_lt_mul hd]
  have h2 : (s.2 + 1) * 4294967296 ≤ d * 4294967296 := Nat.mul_le_mul_right _ hl
  omega
theorem pfold_from {d : Nat} (hd : 0 < d) : ∀ (is : List Nat) (s : List Nat × Nat), W32 s.1 → s.2 < d → W32 (is.foldl (pst d) s).1 ∧ (is.foldl (pst d) s).2 < d ∧ (is.foldl (pst d) s).1.length = s.1.length
  | [], s, h1, h2 => ⟨h1, h2, rfl⟩
  | i :: is, s, h1, h2 => by
    obtain ⟨k1, k2, k3⟩ := pst_ok hd h1 h2 i
    obtain ⟨j1, j2, j3⟩ := pfold_from hd is (pst d s i) k1 k2
    exact ⟨j1, j2, j3.trans k3⟩
theorem pfold_ok {d : Nat} (hd : 0 < d) {L : List Nat} (hW : W32 L) (is : List Nat) : W32 (pfold d L is).1 ∧ (pfold d L is).2 < d ∧ (pfold d L is).1.length = L.length := pfold_from hd is (L, 0) hW hd
theorem drop_val32 (l : List Nat) (j : Nat) (h : j < l.length) : val32 (l.drop j) = l[j]?.getD 0 + 4294967296 * val32 (l.drop (j + 1)) := by
  rw [List.drop_eq_getElem_cons h, val32, List.getElem?_eq_getElem h]
  rfl
/-- All rounds, from the highest word down. -/
theorem pfold_down {d : Nat} (hd : 0 < d) {L : List Nat} (hW : W32 L) (n : Nat) (hn : L.length = n) : ∀ m, m ≤ n → val32 ((pfold d L (List.range' (n - m) m).reverse).1.drop (n - m)) * d + (pfold d L (List.range' (n - m) m).reverse).2 = val32 (L.drop (n - m)) ∧ (pfold d L (List.range' (n - m) m).reverse).1.take (n - m) = L.take (n - m)
  | 0, _ => by
    have e : pfold d L (List.range' (n - 0) 0).reverse = (L, 0) := rfl
    rw [e, Nat.sub_zero]
    refine ⟨?_, rfl⟩
    show val32 (L.drop n) * d + 0 = val32 (L.drop n)
    rw [List.drop_of_length_le (by omega)]
    simp [val32]
  | m + 1, hm => by
    obtain ⟨h1, h2⟩ := pfold_down hd hW n hn m (by omega)
    have e0 : n - m = (n - (m + 1)) + 1 := by omega
    obtain ⟨k, hk⟩ : ∃ k, k = n - (m + 1) := ⟨_, rfl⟩
    rw [← hk] at e0 ⊢
    rw [e0] at h1 h2
    have e1 : (List.range' k (m + 1)).reverse = (List.range' (k + 1) m).reverse ++ [k] := by rw [List.range'_succ, List.reverse_cons]
    rw [e1, pfold_snoc]
    obtain ⟨a1, a2, a3⟩ := pfold_ok hd hW (List.range' (k + 1) m).reverse
    generalize pfold d L (List.range' (k + 1) m).reverse = s at *
    have hkl : k < s.1.length := by rw [a3, hn]; omega
    have hkL : k < L.length := by rw [hn]; omega
    have hmk : s.1[k]?.getD 0 = L[k]?.getD 0 := by
      have := congrArg (·[k]?) h2
      simp only [List.getElem?_take_of_lt (Nat.lt_succ_self k)] at this
      rw [this]
    refine ⟨?_, ?_⟩
    · unfold pst
      rw [drop_val32 _ k (by rw [List.length_set]; exact hkl), List.getElem?_set_self hkl, List.drop_set_of_lt (Nat.lt_succ_self k), drop_val32 L k hkL, ← h1, hmk]
      simp only [Option.getD_some]
      have h5 := Nat.div_add_mod (s.2 * 4294967296 + L[k]?.getD 0) d
      generalize (s.2 * 4294967296 + L[k]?.getD 0) / d = q at *
      generalize (s.2 * 4294967296 + L[k]?.getD 0) % d = r at *
      generalize val32 (List.drop (k + 1) s.1) = V at *
      have e5 : (q + 4294967296 * V) * d = d * q + 4294967296 * (V * d) := by grind
      rw [e5]
      omega
    · unfold pst
      simp only
      rw [List.take_set_of_le (Nat.le_refl k)]
      have := congrArg (List.take k) h2
      rw [List.take_take, List.take_take, Nat.min_eq_left (by omega)] at this
      exact this
theorem pfold_all {d : Nat} (hd : 0 < d) {L : List Nat} (hW : W32 L) (n : Nat) (hn : L.length = n) : val32 (pfold d L (List.range n).reverse).1 = val32 L / d ∧ (pfold d L (List.range n).reverse).2 = val32 L % d := by
  have h := (pfold_down hd hW n hn n (Nat.le_refl _)).1
  rw [Nat.sub_self, List.drop_zero, List.drop_zero, ← List.range_eq_range'] at h
  have h2 := (pfold_ok hd hW (List.range n).reverse).2.1
  generalize pfold d L (List.range n).reverse = s at *
  rw [← h]
  constructor
  · rw [Nat.mul_comm, Nat.mul_add_div hd, Nat.div_eq_of_lt h2, Nat.add_zero]
  · rw [Nat.mul_comm, Nat.mul_add_mod, Nat.mod_eq_of_lt h2]
theorem Kq.putObj {n rb Bs N : Nat} (hn : rb < N) (hB : Bs < N) (W : World) (l : Nat) (o o' : Obj) (hl : N ≤ l) (h : W.heap[l]? = some o) (h1 : o.isCells = false) (h2 : o.isWalk = false) : Kq n rb Bs W (W.putObj l o') := by
  have hlt := (Array.getElem?_eq_some_iff.1 h).1
  refine ⟨fun hr j hj => ?_, (grownBy_putObj' W l o').block Bs (by omega) (fun e => by cases e; omega)⟩
  obtain ⟨z, hz, hc⟩ := hr j hj
  refine ⟨z, hz, (World.cell?_of_block (a := ⟨rb, j, none⟩) ?_).trans hc⟩
  exact (grownBy_putObj' W l o').block rb (by omega) (fun e => by cases e; omega)
theorem own_rowOk {base n : Nat} {w : World} {g cap : Nat} {L : List Nat} (hn : L.length = n) (h : Own base w (.slice (some ⟨g, 0, none⟩) L.length cap) L) (hW : W32 L) : RowOk n g w := fun j hj => ⟨L[j]?.getD 0, w32_get hW j, h.cell j (by omega)⟩
theorem or_word (l m : Nat) (hl : l < 4294967296) (hm : m < 4294967296) : bits BinOp.or IntKind.u64 (IntKind.u64.wrap ((l : Int) * 4294967296)) (IntKind.u64.wrap (m : Int)) = ((l * 4294967296 + m : Nat) : Int) := by
  have e1 : IntKind.u64.wrap ((l : Int) * 4294967296) = ((l * 4294967296 : Nat) : Int) := by rw [IntKind.wrap_u64]; omega
  have e2 : IntKind.u64.wrap (m : Int) = (m : Int) := by rw [IntKind.wrap_u64]; omega
  rw [e1, e2, bits_or_u64_nat _ _ (by omega) (by omega)]
  congr 1
  have : l * 4294967296 = l <<< 32 := by rw [Nat.shiftLeft_eq]
  rw [this]
  exact (Nat.shiftLeft_add_eq_or_of_lt (by omega : m < 2 ^ 32) l).symm
theorem own_other {base : Nat} {w : World} {g cap n : Nat} {L : List Nat} (h : Own base w (.slice (some ⟨g, 0, none⟩) n cap) L) {k : Nat} (hk : g ≠ k) (u : Value) : Own base (w.setCell ⟨k, 0, none⟩ u) (.slice (some ⟨g, 0, none⟩) n cap) L := by
  refine ⟨h.1, ?_⟩
  rcases h.2 with h3 | ⟨g', cap', cur, hv, hbg, hgg, hrr⟩
  · exact .inl h3
  · cases hv
    exact .inr ⟨g, cap, cur, rfl, hbg, ((grownBy_setCell' w k u).block g (lt_of_get hgg) (fun e => hk (by cases e; rfl))).trans hgg, hrr⟩
theorem kept_set {w W : World} (h : Kept108 w W) {k : Nat} {j : Nat} (hk : w.heap.size ≤ k ∨ ∃ C fr, W.heap[k]? = some (Obj.cells C 108 fr)) (u : Value) : Kept108 w (W.setCell ⟨k, j, none⟩ u) := by
  intro i C t fr hi ht
  have h1 := h i C t fr hi ht
  refine (heap_setCell_other W ⟨k, j, none⟩ i u ?_).trans h1
  intro e
  rcases hk with h2 | ⟨C', fr', h2⟩
  · have := lt_of_get hi
    simp at e
    omega
  · simp at e
    rw [← e, h1] at h2
    cases h2
    exact ht rfl
theorem kept_below {w w' : World} (hb : Below w.heap.size w w') : Kept108 w w' := fun k C t fr h _ => (hb.block k (lt_of_get h)).trans h
/-- What the rounds keep. -/
structure PtI (base : Nat) (w : World) (L : List Nat) (d n g cap : Nat) (pre : List (Wi n)) (W : World) : Prop where
  bA : Boxed W w.heap.size 117 (.slice (some ⟨g, 0, none⟩) n cap)
  bD : Boxed W (w.heap.size + 1) 108 (.int .u32 (d : Int))
  bL : Boxed W (w.heap.size + 2) 22 (.int .u64 (((pfold d L (pre.map (fun x => x.1.1))).2 : Nat) : Int))
  bS : Boxed W (w.heap.size + 3) 117 (.slice (some ⟨g, 0, none⟩) n cap)
  own : Own base W (.slice (some ⟨g, 0, none⟩) n cap) (pfold d L (pre.map (fun x => x.1.1))).1
  kept : Kept108 w W
  below : Below base w W
theorem ptI_own (base : Nat) (w : World) (L : List Nat) (d n g cap B : Nat) (hB : w.heap.size ≤ B) (hbs : base ≤ w.heap.size) : OwnFrom B (fun pre W => PtI base w L d n g cap pre W) := by
  intro s W W' row h hg hr
  have keep : ∀ (k : Nat) (C : Array Value) (t : TypeId) (fr : Nat × Nat), W.heap[k]? = some (Obj.cells C t fr) → W'.heap[k]? = some (Obj.cells C t fr) := by
    intro k C t fr hk
    refine (hg.block k (lt_of_get hk) ?_).trans hk
    intro e
    obtain ⟨_, o, ho, hc⟩ := hr k e.symm
    rw [hk] at ho
    cases ho
    cases hc
  refine ⟨keep _ _ _ _ h.bA, keep _ _ _ _ h.bD, keep _ _ _ _ h.bL, keep _ _ _ _ h.bS, ?_, fun k C t fr hk ht => keep _ _ _ _ (h.kept k C t fr hk ht), ?_⟩
  · refine ⟨h.own.1, ?_⟩
    rcases h.own.2 with h3 | ⟨g', cap', cur, hv, hbg, hgg, hrr⟩
    · exact .inl h3
    · exact .inr ⟨g', cap', cur, hv, hbg, keep _ _ _ _ hgg, hrr⟩
  · exact h.below.grown hg (Nat.le_trans hbs h.below.size) (fun k e => by have := (hr k e).1; omega)
theorem own_put {base : Nat} {w : World} {g cap n : Nat} {L : List Nat} (h : Own base w (.slice (some ⟨g, 0, none⟩) n cap) L) {D : Nat} (hD : g ≠ D) (o : Obj) : Own base (w.putObj D o) (.slice (some ⟨g, 0, none⟩) n cap) L := by
  refine ⟨h.1, ?_⟩
  rcases h.2 with h3 | ⟨g', cap', cur, hv, hbg, hgg, hrr⟩
  · exact .inl h3
  · cases hv
    exact .inr ⟨g, cap, cur, rfl, hbg, ((grownBy_putObj' w D o).block g (lt_of_get hgg) (fun e => hD (by cases e; rfl))).trans hgg, hrr⟩
theorem kept_put {w W : World} (h : Kept108 w W) {D : Nat} (hD : w.heap.size ≤ D) (o : Obj) : Kept108 w (W.drew.putObj D o) := by
  intro i C t fr hi ht
  have h1 : W.drew.heap[i]? = _ := h i C t fr hi ht
  have := lt_of_get hi
  exact ((grownBy_putObj' W.drew D o).block i (lt_of_get h1) (fun e => by cases e; omega)).trans h1
theorem below_put {base D : Nat} {w W : World} (h : Below base w W) (hbs : base ≤ w.heap.size) (hD : base ≤ D) (hDW : D < W.heap.size) (o : Obj) : Below base w (W.putObj D o) :=
  h.grown (grownBy_putObj' W D o) (Nat.le_trans hbs h.size) (fun k e => by cases e; exact hD)
set_option maxRecDepth 100000 in
set_option maxHeartbeats 40000000 in
theorem part_any : PartC := by
  intro base v x d B hd1 hd2 hB hx hx0 w hv hbs
  obtain ⟨L, hO, hW, hT, hval⟩ := hv
  obtain ⟨g, cap, hve, hg0, hg1, hlc⟩ : ∃ g cap, v = .slice (some ⟨g, 0, none⟩) L.length cap ∧ base ≤ g ∧ g < w.heap.size ∧ L.length ≤ cap := by
    rcases hO.forms with ⟨h, h2⟩ | h
    · exfalso
      rw [h2] at hval
      simp [val32] at hval
      omega
    · exact h
  subst hve
  obtain ⟨n, hn⟩ : ∃ n, L.length = n := ⟨_, rfl⟩
  have hn1000 : n ≤ 1000 := by rw [← hn]; exact Nat.le_trans (top_len hT hW (by rw [hval]; exact hx)) hB
  rw [hn]
  refine (callsIn_wide (n := 5)).1 ?_
  refine callsIn_of_wp_marks Tryz.func159 rfl trivial ?_ rfl
  simp only [Tryz.ntmps159, List.size_toArray, List.length_cons, List.length_nil, Nat.reduceAdd, Nat.reduceSub, Array.replicate_succ, Array.replicate_zero, List.push_toArray, List.append_toArray, List.nil_append, List.cons_append]
  gi_wp2_with (first | (refine ⟨trivial, ?_⟩; gi_at_call 200; refine (back_in Fence.wide _ trivial rfl _ ⟨_, _, _, rfl⟩ _).mono ?_; rintro e w' ⟨rfl, rfl⟩))
  have hd0 : 0 < d := by omega
  obtain ⟨W4, hW4⟩ : ∃ W4, W4 = ((((w.alloc (Obj.cells #[Value.slice (some ⟨g, 0, none⟩) n cap] 117)).alloc (Obj.cells #[Value.int IntKind.u32 (d : Int)] 108)).alloc (Obj.cells #[Value.int IntKind.u64 0] 22)).alloc (Obj.cells #[Value.slice (some ⟨g, 0, none⟩) n cap] 117)) := ⟨_, rfl⟩
  have hs4 : W4.heap.size = w.heap.size + 4 := by rw [hW4]; simp
  have hb4 : Below w.heap.size w W4 := by rw [hW4]; exact ((((Below.refl _ _).alloc (Nat.le_refl _) _).alloc (by simp) _).alloc (by simp; omega) _).alloc (by simp; omega) _
  have bA : Boxed W4 w.heap.size 117 (.slice (some ⟨g, 0, none⟩) n cap) := by rw [hW4]; exact (((Boxed.new w 117 _).alloc _).alloc _).alloc _
  have bD : Boxed W4 (w.heap.size + 1) 108 (.int .u32 (d : Int)) := by
    rw [hW4]
    have h := ((Boxed.new (w.alloc (Obj.cells #[Value.slice (some ⟨g, 0, none⟩) n cap] 117)) 108 (.int .u32 (d : Int))).alloc (Obj.cells #[Value.int IntKind.u64 0] 22)).alloc (Obj.cells #[Value.slice (some ⟨g, 0, none⟩) n cap] 117)
    rw [World.size_alloc] at h
    exact h
  have bL : Boxed W4 (w.heap.size + 2) 22 (.int .u64 0) := by
    rw [hW4]
    have h := (Boxed.new ((w.alloc (Obj.cells #[Value.slice (some ⟨g, 0, none⟩) n cap] 117)).alloc (Obj.cells #[Value.int IntKind.u32 (d : Int)] 108)) 22 (.int .u64 0)).alloc (Obj.cells #[Value.slice (some ⟨g, 0, none⟩) n cap] 117)
    rw [World.size_alloc, World.size_alloc] at h
    exact h
  have bS : Boxed W4 (w.heap.size + 3) 117 (.slice (some ⟨g, 0, none⟩) n cap) := by
    rw [hW4]
    have h := Boxed.new (((w.alloc (Obj.cells #[Value.slice (some ⟨g, 0, none⟩) n cap] 117)).alloc (Obj.cells #[Value.int IntKind.u32 (d : Int)] 108)).alloc (Obj.cells #[Value.int IntKind.u64 0] 22)) 117 (.slice (some ⟨g, 0, none⟩) n cap)
    rw [World.size_alloc, World.size_alloc, World.size_alloc] at h
    exact h
  have hO4 : Own base W4 (.slice (some ⟨g, 0, none⟩) n cap) L := by rw [← hn]; exact hO.below hb4
  have hR4 : RowOk n g W4 := own_rowOk hn (by rw [hn]; exact hO4) hW
  have hk4 : Kept108 w W4 := kept_below hb4
  have hbb4 : Below base w W4 := hb4.mono hbs
  rw [← hW4]
  have hstops := back_stops Fence.wide 4 trivial rfl (by omega) (w.heap.size + 3) g n cap (by omega) W4 (by omega) (by omega) bS.cell hR4
  refine wpIn_rangeFunc_ownG rfl (by omega) (gf := 243) (lb := #[.pointer (some ⟨w.heap.size + 1 + 1 + 1, 0, none⟩)]) rfl trivial (enters_of Tryz.func243 (by kernel_rfl) rfl)
    hstops Kq.trans (Kq.putObj (by omega) (by omega)) (Below.refl _ _) (fun _ => rfl)
    (fun pre W => PtI base w L d n g cap pre W)
    (fun _ _ _ => False)
    (ptI_own base w L d n g cap W4.heap.size (by omega) (by omega))
    (fun _ _ _ _ _ hs _ _ => hs)
    ⟨bA, bD, bL, bS, hO4, hk4, hbb4⟩
    (fun x => { tmps := #[Value.slice (some ⟨g, 0, none⟩) n cap, Value.int IntKind.u32 (d : Int), Value.pointer (some ⟨w.heap.size, 0, none⟩), Value.pointer (some ⟨w.heap.size + 1, 0, none⟩), Value.slice none 0 0, Value.int IntKind.u32 0, Value.pointer (some ⟨w.heap.size + 1 + 1, 0, none⟩), Value.int IntKind.i64 ((x.1.1 : Nat) : Int), Value.slice (some ⟨g, 0, none⟩) n cap, Value.func (Fn.func 243) #[] #[Value.pointer (some ⟨w.heap.size + 1 + 1 + 1, 0, none⟩)], Value.int IntKind.i64 ((x.1.1 : Nat) : Int), Value.int IntKind.u32 ((x.1.2 : Nat) : Int), undef, undef, undef, undef, undef, undef, undef, undef, undef, undef, undef, undef, undef, undef, undef, undef, undef, undef, undef, undef, undef, undef, undef, undef], defers := [] }) ?assign ?body ?done ?stop
  case assign =>
    intro l x W K hK
    gi_wp2
    exact hK
  case body =>
    rintro l pre x W hI hlt
    obtain ⟨hA, hD, hL, hS, hOw, hKp, hBw⟩ := hI
    obtain ⟨⟨i, z⟩, hi, hz⟩ := x
    obtain ⟨a1, a2, a3⟩ := pfold_ok hd0 hW (pre.map (fun x => x.1.1))
    have hstep := pfold_snoc d L (pre.map (fun x => x.1.1)) i
    have hso := pst_ok hd0 a1 a2 i
    generalize hs : pfold d L (pre.map (fun x => x.1.1)) = s at *
    obtain ⟨M, left⟩ := s
    simp only at a1 a2 a3 hL hOw hi
    have hMn : M.length = n := a3.trans hn
    have hOM : Own base W (.slice (some ⟨g, 0, none⟩) M.length cap) M := by rw [hMn]; exact hOw
    have ca := hA.cell
    have cd := hD.cell
    have cl := hL.cell
    have fl := hL.frozen
    have hcell := hOM.cell i (by omega)
    have hfz := hOM.frozen i
    have hmb := w32_get a1 i
    obtain ⟨m, hm⟩ : ∃ m, m = M[i]?.getD 0 := ⟨_, rfl⟩
    rw [← hm] at hcell hmb
    have k1 : (i : Int) < (n : Int) := by omega
    obtain ⟨y, hy⟩ : ∃ y, y = left * 4294967296 + m := ⟨_, rfl⟩
    have hyb : y < 18446744073709551616 := by omega
    have HY : Hid (y = left * 4294967296 + m) := hy
    have Hm : Hid (m = M[i]?.getD 0) := hm
    clear hy hm
    have mixed := mixedZ
    have HVV : Hid (bits BinOp.or IntKind.u64 (IntKind.u64.wrap ((left : Int) * 4294967296)) (IntKind.u64.wrap (m : Int)) = (y : Int)) := by rw [HY.out]; exact or_word left m (by omega) hmb
    gi_wp2
    rename_i Q1 K1 hK1
    suffices REST : K1 { tmps := #[Value.slice (some ⟨g, 0, none⟩) n cap, Value.int IntKind.u32 (d : Int), Value.pointer (some ⟨w.heap.size, 0, none⟩), Value.pointer (some ⟨w.heap.size + 1, 0, none⟩), Value.slice none 0 0, Value.int IntKind.u32 0, Value.pointer (some ⟨w.heap.size + 1 + 1, 0, none⟩), Value.int IntKind.i64 (i : Int), Value.slice (some ⟨g, 0, none⟩) n cap, Value.func (Fn.func 243) #[] #[Value.pointer (some ⟨w.heap.size + 1 + 1 + 1, 0, none⟩)], Value.int IntKind.i64 (i : Int), Value.int IntKind.u32 (z : Int), Value.int IntKind.u64 (left : Int), Value.int IntKind.u64 (IntKind.u64.wrap ((left : Int) * 4294967296)), Value.slice (some ⟨g, 0, none⟩) n cap, Value.int IntKind.i64 (i : Int), Value.pointer (some ⟨g, i, none⟩), Value.int IntKind.u32 (m : Int), Value.int IntKind.u64 (IntKind.u64.wrap (m : Int)), Value.int IntKind.u64 (bits BinOp.or IntKind.u64 (IntKind.u64.wrap ((left : Int) * 4294967296)) (IntKind.u64.wrap (m : Int))), undef, undef, undef, undef, undef, undef, undef, undef, undef, undef, undef, undef, undef, undef, undef, undef], defers := [] } ((W.setCell ⟨w.heap.size + 1 + 1, 0, none⟩ (Value.int IntKind.u64 (bits BinOp.or IntKind.u64 (IntKind.u64.wrap ((left : Int) * 4294967296)) (IntKind.u64.wrap (m : Int))))).drew) by
      clear hK1 HVV HY Hm hyb hmb hk4 hR4 hO4 hstops hbb4 bA bD bL bS hA hD hL hS hOw hKp hBw hOM hs a1 a2 a3 hMn hstep hso hO hW hT hval hx hx0 hB hbs hd1 hd2 hd0 hb4 hs4 hlc hn1000 hfz cd
      gi_region
      all_goals exact REST
    apply hK1
    rw [HVV.out]
    have hL1 := (Boxed.set (.int .u64 (y : Int)) hL)
    have hA1 := Boxed.other (B' := w.heap.size + 2) hA (by omega) (.int .u64 (y : Int))
    have hD1 := Boxed.other (B' := w.heap.size + 2) hD (by omega) (.int .u64 (y : Int))
    have hS1 := Boxed.other (B' := w.heap.size + 2) hS (by omega) (.int .u64 (y : Int))
    have hO1 : Own base (W.setCell ⟨w.heap.size + 2, 0, none⟩ (.int .u64 (y : Int))) (.slice (some ⟨g, 0, none⟩) n cap) M := own_other hOw (by omega) _
    have hk1 : Kept108 w (W.setCell ⟨w.heap.size + 2, 0, none⟩ (.int .u64 (y : Int))) := kept_set hKp (Or.inl (by omega)) _
    have hb1 : Below base w (W.setCell ⟨w.heap.size + 2, 0, none⟩ (.int .u64 (y : Int))) := hBw.setCell (by show base ≤ w.heap.size + 2; omega) _
    have hkf1 : KeepsOthers W (W.setCell ⟨w.heap.size + 2, 0, none⟩ (.int .u64 (y : Int))) := KeepsOthers.setCell _ _ _
    obtain ⟨W2, hW2⟩ : ∃ W2, W2 = (W.setCell ⟨w.heap.size + 1 + 1, 0, none⟩ (Value.int IntKind.u64 (y : Int))).drew := ⟨_, rfl⟩
    rw [← hW2]
    have hA2 : Boxed W2 w.heap.size 117 (.slice (some ⟨g, 0, none⟩) n cap) := by rw [hW2]; exact hA1
    have hD2 : Boxed W2 (w.heap.size + 1) 108 (.int .u32 (d : Int)) := by rw [hW2]; exact hD1
    have hL2 : Boxed W2 (w.heap.size + 2) 22 (.int .u64 (y : Int)) := by rw [hW2]; exact hL1
    have hS2 : Boxed W2 (w.heap.size + 3) 117 (.slice (some ⟨g, 0, none⟩) n cap) := by rw [hW2]; exact hS1
    have hO2 : Own base W2 (.slice (some ⟨g, 0, none⟩) n cap) M := by rw [hW2]; exact hO1
    have hk2 : Kept108 w W2 := by rw [hW2]; exact hk1
    have hb2 : Below base w W2 := by rw [hW2]; exact hb1.drew
    have hkf2 : KeepsOthers W W2 := by rw [hW2]; exact hkf1.trans (KeepsOthers.drew _)
    clear hW2 hL1 hA1 hD1 hS1 hO1 hk1 hb1 hkf1 hK1 ca cd cl fl hcell hfz
    have ca2 := hA2.cell
    have cd2 := hD2.cell
    have cl2 := hL2.cell
    have fl2 := hL2.frozen
    have hOM2 : Own base W2 (.slice (some ⟨g, 0, none⟩) M.length cap) M := by rw [hMn]; exact hO2
    have hcell2 := hOM2.cell i (by omega)
    have hfz2 := hOM2.frozen i
    have hdz : ((d : Int) == 0) = false := by rw [beq_eq_false_iff_ne]; omega
    obtain ⟨q, hq⟩ : ∃ q, q = y / d := ⟨_, rfl⟩
    have HQ : Hid (q = y / d) := hq
    have hq32 : q < 4294967296 := by
      rw [hq, HY.out, Nat.div_lt_iff_lt_mul hd0]
      have h2 : (left + 1) * 4294967296 ≤ d * 4294967296 := Nat.mul_le_mul_right _ a2
      omega
    have eq : (y : Int) / (d : Int) = (q : Int) := by rw [hq]; rfl
    have hwd : IntKind.u64.wrap (d : Int) = (d : Int) := by rw [IntKind.wrap_u64]; omega
    have hwq : IntKind.u32.wrap (q : Int) = (q : Int) := by rw [IntKind.wrap_u32]; omega
    clear hq
    gi_wp2
    rename_i K2 hK2
    suffices REST2 : K2 { tmps := #[Value.slice (some ⟨g, 0, none⟩) n cap, Value.int IntKind.u32 (d : Int), Value.pointer (some ⟨w.heap.size, 0, none⟩), Value.pointer (some ⟨w.heap.size + 1, 0, none⟩), Value.slice none 0 0, Value.int IntKind.u32 0, Value.pointer (some ⟨w.heap.size + 1 + 1, 0, none⟩), Value.int IntKind.i64 (i : Int), Value.slice (some ⟨g, 0, none⟩) n cap, Value.func (Fn.func 243) #[] #[Value.pointer (some ⟨w.heap.size + 1 + 1 + 1, 0, none⟩)], Value.int IntKind.i64 (i : Int), Value.int IntKind.u32 (z : Int), Value.int IntKind.u64 (left : Int), Value.int IntKind.u64 ((left : Int) * 4294967296), Value.slice (some ⟨g, 0, none⟩) n cap, Value.int IntKind.i64 (i : Int), Value.pointer (some ⟨g, i, none⟩), Value.int IntKind.u32 (m : Int), Value.int IntKind.u64 (m : Int), Value.int IntKind.u64 (y : Int), Value.slice (some ⟨g, 0, none⟩) n cap, Value.int IntKind.i64 (i : Int), Value.int IntKind.u64 (y : Int), Value.int IntKind.u32 (d : Int), Value.int IntKind.u64 (d : Int), Value.int IntKind.u64 (q : Int), Value.int IntKind.u32 (q : Int), Value.pointer (some ⟨g, i, none⟩), undef, undef, undef, undef, undef, undef, undef, undef], defers := [] } ((W2.setCell ⟨g, i, none⟩ (Value.int IntKind.u32 (q : Int))).drew) by
      clear hK2 HVV HY Hm hk4 hR4 hO4 hstops hbb4 bA bD bL bS hA hD hL hS hOw hKp hBw hOM hs a1 a3 hMn hstep hso hO hW hT hval hx hx0 hB hbs hb4 hs4 hlc hn1000 hA2 hD2 hL2 hS2 hO2 hk2 hb2 hkf2 hOM2 HQ
      gi_region
      all_goals exact REST2
    apply hK2
    clear ca2 cd2 cl2 fl2 hcell2 hfz2 hwq hwd eq
    obtain ⟨W3, hW3⟩ : ∃ W3, W3 = (W2.setCell ⟨g, i, none⟩ (Value.int IntKind.u32 (q : Int))).drew := ⟨_, rfl⟩
    rw [← hW3]
    have blk : ∀ k, k ≠ g → W3.heap[k]? = W2.heap[k]? := fun k hk => by rw [hW3]; exact heap_setCell_other W2 ⟨g, i, none⟩ k _ (fun e => hk (by simpa using e))
    have hA3 : Boxed W3 w.heap.size 117 (.slice (some ⟨g, 0, none⟩) n cap) := (blk _ (by omega)).trans hA2
    have hD3 : Boxed W3 (w.heap.size + 1) 108 (.int .u32 (d : Int)) := (blk _ (by omega)).trans hD2
    have hL3 : Boxed W3 (w.heap.size + 2) 22 (.int .u64 (y : Int)) := (blk _ (by omega)).trans hL2
    have hS3 : Boxed W3 (w.heap.size + 3) 117 (.slice (some ⟨g, 0, none⟩) n cap) := (blk _ (by omega)).trans hS2
    have hO3 : Own base W3 (.slice (some ⟨g, 0, none⟩) n cap) (M.set i q) := by
      have h := hOM2.set i q
      rw [List.length_set, hMn] at h
      rw [hW3]
      exact h
    have hrow : ∃ C fr, W2.heap[g]? = some (Obj.cells C 108 fr) := by
      rcases hO2.2 with ⟨h3, _⟩ | ⟨g', cap', cur, hv, hbg, hgg, hrr⟩
      · cases h3
      · cases hv; exact ⟨cur, _, hgg⟩
    have hk3 : Kept108 w W3 := by rw [hW3]; exact kept_set hk2 (Or.inr hrow) _
    have hb3 : Below base w W3 := by rw [hW3]; exact (hb2.setCell hg0 _).drew
    have hkf3 : KeepsOthers W W3 := by rw [hW3]; exact (hkf2.trans (KeepsOthers.setCell _ _ _)).trans (KeepsOthers.drew _)
    have cd3 := hD3.cell
    have cl3 := hL3.cell
    have fl3 := hL3.frozen
    obtain ⟨rr, hrr⟩ : ∃ rr, rr = y % d := ⟨_, rfl⟩
    have HRR : Hid (rr = y % d) := hrr
    have er : (y : Int) % (d : Int) = (rr : Int) := by rw [hrr]; rfl
    have hdz2 : ((d : Int) == 0) = false := hdz
    clear hW3 blk hrr hK2 hA2 hD2 hL2 hS2 hO2 hOM2 hk2 hb2 hkf2 hrow
    gi_wp2
    have hfin : pfold d L ((pre ++ [(⟨(i, z), hi, hz⟩ : Wi n)]).map (fun x => x.1.1)) = (M.set i q, rr) := by
      rw [List.map_append]
      refine hstep.trans ?_
      unfold pst
      simp only
      rw [← Hm.out, ← HY.out, ← HQ.out, ← HRR.out]
    have hw : W32 (M.set i q) := w32_set a1 hq32
    have hO4 : Own base (W3.setCell ⟨w.heap.size + 2, 0, none⟩ (.int .u64 (rr : Int))) (.slice (some ⟨g, 0, none⟩) n cap) (M.set i q) := own_other hO3 (by omega) _
    have hS4 := Boxed.other (B' := w.heap.size + 2) hS3 (by omega) (.int .u64 (rr : Int))
    refine ⟨(hkf3.trans (KeepsOthers.setCell _ _ _)).from _, ⟨fun _ => ?_, ?_⟩, ?_⟩
    · refine own_rowOk (base := base) (cap := cap) (L := M.set i q) (by rw [List.length_set]; exact hMn) ?_ hw
      rw [List.length_set, hMn]
      exact hO4
    · exact hS4.trans hS.symm
    · refine ⟨Boxed.other (B' := w.heap.size + 2) hA3 (by omega) _, Boxed.other (B' := w.heap.size + 2) hD3 (by omega) _, ?_, hS4, ?_, kept_set hk3 (Or.inl (by omega)) _, hb3.setCell (by show base ≤ w.heap.size + 2; omega) _⟩
      · rw [hfin]; exact Boxed.set _ hL3
      · rw [hfin]; exact hO4
  case done =>
    rintro D ys W hD hys hI hK
    obtain ⟨hA, hDd, hL, hS, hOw, hKp, hBw⟩ := hI
    obtain ⟨b1, b2, b3⟩ := pfold_ok hd0 hW (ys.map (fun x => x.1.1))
    have hall := pfold_all hd0 hW n hn
    rw [hys] at hL hOw b1 b2 b3
    obtain ⟨q1, q2⟩ := hall
    generalize pfold d L (List.range n).reverse = s at *
    obtain ⟨M, left⟩ := s
    simp only at b1 b2 b3 hL hOw q1 q2
    have ca := hA.cell
    have cl := hL.cell
    have hMn : M.length = n := b3.trans hn
    have hOM : Own base W (.slice (some ⟨g, 0, none⟩) M.length cap) M := by rw [hMn]; exact hOw
    have ct := trimmed_some base g cap M (by omega) W.drew hOM
    rw [hMn] at ct
    have HX : Hid (val32 M = x / d ∧ left = x % d) := ⟨by rw [q1, hval], by rw [q2, hval]⟩
    have HWL : Hid (IntKind.u32.wrap (left : Int) = ((x % d : Nat) : Int)) := by
      show IntKind.u32.wrap (left : Int) = ((x % d : Nat) : Int)
      rw [← HX.out.2, IntKind.wrap_u32]
      omega
    clear q1 q2 hstops hR4 hO4 hk4 hbb4 bA bD bL bS
    have mixed := mixedZ
    have ctI := (callsIn_wide (n := 4)).2 ct
    gi_wp2
    rename_i K9 hK9
    refine wpIn_mono (Q := Exit.then K9 (fun _ _ _ => False)) ?_ (fun e a w h => by cases e <;> first | exact h | exact h.elim)
    gi_region_with (first | (refine ⟨trivial, ?_⟩; gi_at_call 158; refine ctI.mono ?_; rintro e w' ⟨M2, kk, rfl, h1, h2, h3, rfl⟩) | (gi_at_call 158; refine ctI.mono ?_; rintro e w' ⟨M2, kk, rfl, h1, h2, h3, rfl⟩))
    all_goals
      refine hK9 _ _ ?_
      gi_wp2
      refine ⟨by simp, .inl ⟨_, _, rfl, run_takeDeferred hK, ?_⟩⟩
      refine ⟨_, results_tmp2 rfl _ _ _, ?_⟩
      refine ⟨.slice (some ⟨g, 0, none⟩) M2.length cap, ?_, ?_, ?_, ?_⟩
      · show Ending.returned (Value.tuple #[Value.slice (some ⟨g, 0, none⟩) M2.length cap, Value.int .u32 (IntKind.u32.wrap (left : Int))]) = _
        rw [HWL.out]
      · exact ⟨M2, own_put h1 (by omega) _, w32_prefix b1 h2, h3, by rw [val_prefix h2]; exact HX.out.1⟩
      · exact kept_put hKp (by omega) _
      · exact below_put hBw.drew hbs (by omega) (lt_of_get hK) _
  case stop =>
    rintro D c pre W _ _ h _
    exact h.elim
end Go.Proofs.YtellndmbllmjgaaGreatDoor
/- The law NumDigits, for every input. -/
set_option linter.unusedVariables false
namespace Go.Proofs.YtellndmbllmjgaaGreatDoor
open Go.RowKit Go.Shelf Go.Sort Fs Fl Fl2

theorem numDigits_any (B : Nat) (hB : B < 18446744073709551616) (n how : Int) (h1 : -9223372036854775808 ≤ how) (h2 : how ≤ 9223372036854775807) (w : World) (hL : Laid w) (hT : TabAt 4 Lib.deBruijn64tab w) (hE : ErrT w) :
    Calls Tryz.prog 5 #[.int .u64 (B : Int), .int .i64 n, .int .i64 how] w fun e w' => e = .returned (.bool true) ∧ Below w.heap.size w w' := by
  obtain ⟨s, r, hr, hw⟩ := word_of B hB
  have x1 := Tryz.frombits7 (B : Int)
  rw [Int.toNat_natCast] at x1
  have hC : PartC := part_any
  have b0 := fixA hC s r hr n w hT hL
  have b1 := expA hC s r hr n w hT hL
  have b2 := precA hC s r hr n w hT hL
  have b3 := radA hC s r hr n w hT hL
  rw [← hw] at b0 b1 b2 b3
  have c0 := written0 B n w hE b0
  have c1 := written1 B n w hE b1
  have c2 := written2 B n w hE b2
  have c3 := written3 B n w hE b3
  by_cases h0 : how < 0
  · have hm : (-(how + 1)).tmod 4 = 0 ∨ (-(how + 1)).tmod 4 = 1 ∨ (-(how + 1)).tmod 4 = 2 ∨ (-(how + 1)).tmod 4 = 3 := by
      rw [Int.tmod_eq_emod_of_nonneg (by omega)]
      omega
    rcases hm with h | h | h | h
    · exact law_dn0 B B n how w x1 h0 h1 h c0
    · exact law_dn1 B B n how w x1 h0 h1 h c1
    · exact law_dn2 B B n how w x1 h0 h1 h c2
    · exact law_dn3 B B n how w x1 h0 h1 h c3
  · have hm : how.tmod 4 = 0 ∨ how.tmod 4 = 1 ∨ how.tmod 4 = 2 ∨ how.tmod 4 = 3 := by
      rw [Int.tmod_eq_emod_of_nonneg (by omega)]
      omega
    rcases hm with h | h | h | h
    · exact law_up0 B B n how w x1 h0 h c0
    · exact law_up1 B B n how w x1 h0 h c1
    · exact law_up2 B B n how w x1 h0 h c2
    · exact law_up3 B B n how w x1 h0 h c3
end Go.Proofs.YtellndmbllmjgaaGreatDoor
