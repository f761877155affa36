/- Property.refuses. -/
import Derived.Test.YtmicdbplkfdfnaaGreatDoorCHo3x
import Derived.Deep.DeepCutAuto
import Derived.Deep.CutBlock
import Derived.RangeFuncMany
import Derived.RangeFuncSeq
import Derived.Sort.MapsRangeIn
import Derived.OwnWalkIn
import Derived.TacticsInMore
import Derived.RegionIn
import Derived.LoopNIn
import Derived.LoopIn
import Derived.Test.YtmicdbplkfdfnaaGreatDoorCHn1x
import Derived.Test.YtmicdbplkfdfnaaGreatDoorCHu3x
import Derived.RangeFuncNested
set_option linter.unusedVariables false
namespace Go.Proofs.YtmicdbplkfdfnaaGreatDoor
open Go.RowKit Go.Shelf Go.Maps

set_option maxRecDepth 100000 in
set_option maxHeartbeats 2000000 in
/-- One that can be turned refuses nothing. -/
theorem refuses_not (q0 q1 q3 q4 q5 q6 q7 q8 q9 t0 t1 t2 t3 t4 t5 t6 t7 t8 t9 hv hg hs hw he hc : Value) (w : World) :
    Calls Tryz.prog 67 #[.agg #[q0, q1, .bool true, q3, q4, q5, q6, q7, q8, q9], .agg #[t0, t1, t2, t3, t4, t5, t6, t7, t8, t9, hv, hg, hs, hw, he, hc]] w fun e w' => e = .returned (.bool false) ∧ Kx [] w w' := by
  go_enter Tryz.func67, Tryz.ntmps67
  go_wp2
  go_ret
  exact ⟨rfl, (Kx.alloc _ _ _).alc _⟩
/-- What one that cannot be turned, nor written, refuses. -/
def refB (q1 t0 t1 t2 : Bool) (sm : Bool) (hv hg hs hw he hc : Bool) : Bool := (hc && t2) || (he && (t1 != q1)) || (hg || hs) || (hw && t0) || (hv && !sm)
set_option maxRecDepth 100000 in
set_option maxHeartbeats 2000000 in
theorem refuses_fix (q1 t0 t1 t2 hv hg hs hw he hc : Bool) (y : Nat) (k : Int) (x : Nat) (s : ByteArray) (r t8 t9 : Option Addr) (hy : (FloatKind.f64.format.order y y == some .eq) = true) (w : World) :
    Calls Tryz.prog 67 #[.agg #[.bool false, .bool q1, .bool false, .bool false, .int .i64 3, .float .f64 y, .string ⟨#[]⟩, .pointer none, .pointer none, .pointer none], .agg #[.bool t0, .bool t1, .bool t2, .bool false, .int .i64 k, .float .f64 x, .string s, .pointer r, .pointer t8, .pointer t9, .bool hv, .bool hg, .bool hs, .bool hw, .bool he, .bool hc]] w fun e w' =>
      e = .returned (.bool (refB q1 t0 t1 t2 (decide (k = 3 ∧ x = y)) hv hg hs hw he hc)) ∧ Kx [] w w' := by
  have cs := fun W => same_num k x y s r hy W
  have cf := fun W => tellsF_any (.bool t0) (.bool t1) (.bool t2) (.bool false) (.int .i64 k) (.float .f64 x) (.string s) (.pointer r) (.pointer t8) (.pointer t9) hv hg hs hw he hc W
  generalize decide (k = 3 ∧ x = y) = sm at *
  obtain ⟨W, hW⟩ : ∃ W, W = (w.alloc (Obj.cells #[.bool false, .bool q1, .bool false, .bool false, .int .i64 3, .float .f64 y, .string ⟨#[]⟩, .pointer none, .pointer none, .pointer none] 75)).alloc (Obj.cells #[.bool t0, .bool t1, .bool t2, .bool false, .int .i64 k, .float .f64 x, .string s, .pointer r, .pointer t8, .pointer t9, .bool hv, .bool hg, .bool hs, .bool hw, .bool he, .bool hc] 99) := ⟨_, rfl⟩
  have hQ : W.heap[w.heap.size]? = some (Obj.cells #[.bool false, .bool q1, .bool false, .bool false, .int .i64 3, .float .f64 y, .string ⟨#[]⟩, .pointer none, .pointer none, .pointer none] 75 (0, 0)) := by rw [hW]; exact heap_old (heap_alloc_new _ _) _
  have hT : W.heap[w.heap.size + 1]? = some (Obj.cells #[.bool t0, .bool t1, .bool t2, .bool false, .int .i64 k, .float .f64 x, .string s, .pointer r, .pointer t8, .pointer t9, .bool hv, .bool hg, .bool hs, .bool hw, .bool he, .bool hc] 99 (0, 0)) := by rw [hW]; exact heap_alloc2_new _ _ _
  have HK := (show Hid (Kx [] w W) from by rw [hW]; exact (Kx.alloc _ _ _).alc _)
  have cq0 := cell_at hQ 0 rfl
  have cq1 := cell_at hQ 1 rfl
  have cq2 := cell_at hQ 2 rfl
  have cq3 := cell_at hQ 3 rfl
  have cq4 := cell_at hQ 4 rfl
  have cq5 := cell_at hQ 5 rfl
  have cq6 := cell_at hQ 6 rfl
  have cq7 := cell_at hQ 7 rfl
  have cq8 := cell_at hQ 8 rfl
  have cq9 := cell_at hQ 9 rfl
  have ct0 := cell_at hT 0 rfl
  have ct1 := cell_at hT 1 rfl
  have ct2 := cell_at hT 2 rfl
  have ct3 := cell_at hT 3 rfl
  have ct4 := cell_at hT 4 rfl
  have ct5 := cell_at hT 5 rfl
  have ct6 := cell_at hT 6 rfl
  have ct7 := cell_at hT 7 rfl
  have ct8 := cell_at hT 8 rfl
  have ct9 := cell_at hT 9 rfl
  have ct10 := cell_at hT 10 rfl
  have ct11 := cell_at hT 11 rfl
  have ct12 := cell_at hT 12 rfl
  have ct13 := cell_at hT 13 rfl
  have ct14 := cell_at hT 14 rfl
  have ct15 := cell_at hT 15 rfl
  clear hQ hT
  go_enter Tryz.func67, Tryz.ntmps67
  go_upto_region 1 with fail
  rw [← hW]
  clear hW
  go_upto_region 3 with fail
  go_cut [9] (fun v wx => v = .bool (hc && t2) ∧ wx = W)
  case first =>
    cases hc <;>
    · go_wp2
      go_meet
      exact ⟨by simp, rfl⟩
  case rest =>
    obtain ⟨rfl, rfl⟩ := hcut
    obtain ⟨A, hA⟩ : ∃ A, A = (hc && t2) := ⟨_, rfl⟩
    rw [← hA]
    go_upto_if 9 with fail
    go_cut [9] (fun v wx => v = .bool (A || (he && (t1 != q1))) ∧ wx = wc)
    case first =>
      clear hA
      cases A
      · cases he <;> cases t1 <;> cases q1 <;>
        · go_wp2
          go_meet
          exact ⟨rfl, rfl⟩
      · go_wp2
        go_meet
        exact ⟨by simp, rfl⟩
    case rest =>
      obtain ⟨rfl, rfl⟩ := hcut
      obtain ⟨B, hB⟩ : ∃ B, B = (A || (he && (t1 != q1))) := ⟨_, rfl⟩
      rw [← hB]
      have hR : refB q1 t0 t1 t2 sm hv hg hs hw he hc = (B || (hg || hs) || (hw && t0) || (hv && !sm)) := by rw [hB, hA]; rfl
      have HR := (show Hid (refB q1 t0 t1 t2 sm hv hg hs hw he hc = (B || (hg || hs) || (hw && t0) || (hv && !sm))) from hR)
      clear hR hA hB
      cases B
      · obtain ⟨F, hF⟩ : ∃ F, (hg || hs) = F := ⟨_, rfl⟩
        rw [hF] at HR cf
        clear hF
        cases F
        · go_upto_region 10 with (first | (go_at_call 64; refine (cf _).mono ?_; rintro e w1 ⟨rfl, rfl⟩))
          obtain ⟨W2, hW2⟩ : ∃ W2, W2 = wc.alloc (Obj.cells #[.bool t0, .bool t1, .bool t2, .bool false, .int .i64 k, .float .f64 x, .string s, .pointer r, .pointer t8, .pointer t9, .bool hv, .bool hg, .bool hs, .bool hw, .bool he, .bool hc] 99) := ⟨_, rfl⟩
          have HK2 := (show Hid (Kx [] w W2) from by rw [hW2]; exact HK.out.alc _)
          have hk2 : Kx [] wc W2 := by rw [hW2]; exact Kx.alloc _ _ _
          have e0 := hk2.cell cq0 (by simp)
          have e4 := hk2.cell cq4 (by simp)
          have e5 := hk2.cell cq5 (by simp)
          have e6 := hk2.cell cq6 (by simp)
          have e7 := hk2.cell cq7 (by simp)
          have f0 := hk2.cell ct0 (by simp)
          have f4 := hk2.cell ct4 (by simp)
          have f5 := hk2.cell ct5 (by simp)
          have f6 := hk2.cell ct6 (by simp)
          have f7 := hk2.cell ct7 (by simp)
          have f10 := hk2.cell ct10 (by simp)
          have f13 := hk2.cell ct13 (by simp)
          rw [← hW2]
          clear hW2 hk2 cq0 cq1 cq2 cq3 cq4 cq5 cq6 cq7 cq8 cq9 ct0 ct1 ct2 ct3 ct4 ct5 ct6 ct7 ct8 ct9 ct10 ct11 ct12 ct13 ct14 ct15 HK cf
          have fin : Hid (∀ b W', b = ((hw && t0) || (hv && !sm)) → Kx [] W2 W' → (Ending.returned (.bool b) = Ending.returned (.bool (refB q1 t0 t1 t2 sm hv hg hs hw he hc)) ∧ Kx [] w W')) := by
            show ∀ b W', _
            intro b W' hb hk
            exact ⟨by rw [HR.out, hb]; simp, HK2.out.same hk⟩
          clear HR HK2
          cases hw
          · cases hv
            · go_wp2
              go_ret
              exact fin.out _ _ (by simp) (Kx.refl _ _)
            · go_wp2_with (first | (go_at_call 95; refine (cs _).mono ?_; rintro e w5 ⟨rfl, hk5⟩))
              go_ret
              exact fin.out _ _ (by simp) hk5
          · cases t0
            · cases hv
              · go_wp2
                go_ret
                exact fin.out _ _ (by simp) (Kx.refl _ _)
              · go_wp2_with (first | (go_at_call 95; refine (cs _).mono ?_; rintro e w5 ⟨rfl, hk5⟩))
                go_ret
                exact fin.out _ _ (by simp) hk5
            · go_wp2
              go_ret
              exact fin.out _ _ (by simp) (Kx.refl _ _)
        · go_wp2_with (first | (go_at_call 64; refine (cf _).mono ?_; rintro e w1 ⟨rfl, rfl⟩))
          go_ret
          exact ⟨by rw [HR.out]; rfl, HK.out.alc _⟩
      · go_wp2
        go_ret
        exact ⟨by rw [HR.out]; rfl, HK.out⟩
end Go.Proofs.YtmicdbplkfdfnaaGreatDoor
set_option linter.unusedVariables false
namespace Go.Proofs.YtmicdbplkfdfnaaGreatDoor
open Go.RowKit Go.Shelf Go.Maps

/-- No number twice; on the list are just those that the map has and that are no longer to come. -/
def Came (D0 : DataW Unit) (left : Lit → Bool) (ss : List Nat) : Prop := ss.Nodup ∧ (∀ x ∈ ss, x < 4294967296) ∧ ∀ x, x < 4294967296 → (x ∈ ss ↔ (has D0 (.int .u32 (x : Int)) = true ∧ left (.int .u32 (x : Int)) = false))
theorem Came.start (D0 : DataW Unit) : Came D0 (has D0) [] := ⟨List.nodup_nil, by simp, fun x _ => by cases has D0 (.int .u32 (x : Int)) <;> simp⟩
theorem lit32_ne {x y : Nat} (h : x ≠ y) : (Lit.int .u32 (x : Int)).sameKey (.int .u32 (y : Int)) = false := by
  simp [Lit.sameKey]
  omega
theorem Came.step {D0 : DataW Unit} {left : Lit → Bool} {ss : List Nat} (h : Came D0 left ss) {x : Nat} (hx : x < 4294967296) {y : DataW Unit} (hlk : left (.int .u32 (x : Int)) = true) (hat : ∀ zd, D0.atKey (.int .u32 (x : Int)) zd = y) :
    Came D0 (fun z => left z && !z.sameKey (.int .u32 (x : Int))) (ss ++ [x]) := by
  have hhas : has D0 (.int .u32 (x : Int)) = true := has_true_of_atKey hat
  have hnew : x ∉ ss := fun hm => by have := ((h.2.2 x hx).1 hm).2; rw [hlk] at this; cases this
  refine ⟨List.nodup_append.2 ⟨h.1, by simp, fun a ha b hb => by simp at hb; subst hb; exact fun e => hnew (e ▸ ha)⟩, fun z hz => ?_, fun z hz => ?_⟩
  · rcases List.mem_append.1 hz with h1 | h1
    · exact h.2.1 z h1
    · simp at h1; omega
  · by_cases hzx : z = x
    · subst hzx; simp [hhas, Lit.sameKey]
    · simp [h.2.2 z hz, hzx, lit32_ne hzx]
set_option maxRecDepth 100000 in
set_option maxHeartbeats 1000000 in
theorem keys97_in (F : Fence) (n : Nat) (hF : F.fn 97) (hro : F.round = none) (hn : 1 ≤ n) (l Bm b nn : Nat) (D0 : DataW Unit) (J Jx : List Nat → World → Prop)
    (hY : ∀ pre x W, J pre W → pre.length < Maps.size D0 → YieldAt F (n - 1) Tryz.prog l #[.int .u32 ((x : Nat) : Int)] W fun e W' =>
      (e = .returned (.bool true) ∧ J (pre ++ [x]) W' ∧ KeepsWalks W W') ∨ (e = .returned (.bool false) ∧ Jx (pre ++ [x]) W'))
    (W : World) (hJ : AbidesFrom W.heap.size J) (hm : W.cell? ⟨Bm, 0, none⟩ = some (.map (some b))) (hown : W.ownsMap Tryz.prog 65 prElem b nn D0) (h0 : J [] W) :
    CallsIn F n Tryz.prog 97 #[.func (.yield l) #[] #[], .pointer (some ⟨Bm, 0, none⟩)] W fun e W' => (∃ v, e = .returned v) ∧
      ((∃ ss : List Nat, (ss.Nodup ∧ (∀ x ∈ ss, x < 4294967296) ∧ ∀ x, x < 4294967296 → (x ∈ ss ↔ has D0 (.int .u32 (x : Int)) = true)) ∧ J ss W') ∨ (∃ pre : List Nat, True ∧ Jx pre W')) := by
  refine callsIn_of_wp Tryz.func97 rfl hF ?_ hro
  simp only [Tryz.ntmps97, List.size_toArray, List.length_cons, List.length_nil, Nat.reduceAdd, Nat.reduceSub, Array.replicate_succ, Array.replicate_zero, List.push_toArray, List.append_toArray, List.nil_append, List.cons_append]
  gi_wp2_with (first
    | (gi_at_range; refine wpListIn_range_own _ rfl _ 109 rfl 65 75 keyed65 Tryz.underlying109 _ b nn _ rfl hown ?_; intro w0 hrg0 hg0 hs0)
    | gi_in)
  go_frame
  gi_loopw [3] (fun _ wr => ∃ (left : Lit → Bool) (cnt : Nat) (ss : List Nat), wr.ranges Tryz.prog 65 prElem b W.heap.size nn D0 left cnt ∧ ss.length + cnt ≤ Maps.size D0 ∧ Came D0 left ss ∧ J ss wr)
    (fun _ wr => wr.rangeLeft b W.heap.size)
  case atStart => exact ⟨_, _, [], hrg0, by simp, Came.start D0, hJ [] W w0 none h0 hg0 (fun r e => by cases e)⟩
  case round =>
    obtain ⟨left, cnt, ss, hrg, hcs, hC, hJs⟩ := hrel
    gi_wp2_with (first
      | (gi_at_next; refine wpListIn_next_ranges _ rfl _ rfl 65 keyed65 prElem (fun z : Int => Value.int .u32 z) id (fun key kl hk => by obtain ⟨x, hx, _⟩ := Maps.keyOf_int_inv Tryz.underlying65 hk; exact ⟨x, hx⟩) (fun v _ _ => ⟨v, rfl⟩) b W.heap.size nn _ _ _ rfl hrg ?_ ?_)
      | gi_in)
    · intro hc0 hl0
      gi_wp2
      go_end0
      exact ⟨⟨_, rfl⟩, .inl ⟨ss, ⟨hC.1, hC.2.1, fun x hx => by rw [hC.2.2 x hx, hl0]; simp⟩, hJs⟩⟩
    · intro z c kl yd yp w2 cnt2 hkey hlk hv hat hrg2 hlt hg2 hs2 hen
      obtain ⟨z', ez, rfl, hwf⟩ := Maps.keyOf_int_inv Tryz.underlying65 hkey
      obtain ⟨x, rfl, hx⟩ : ∃ x : Nat, z = (x : Int) ∧ x < 4294967296 := by
        have e : z = z' := by simpa using ez
        subst e
        simp [Lit.wf, IntKind.min, IntKind.max, IntKind.bits, IntKind.signed] at hwf
        exact ⟨z.toNat, by omega, by omega⟩
      obtain rfl : z' = (x : Int) := by
        have e : (x : Int) = z' := by simpa using ez
        exact e.symm
      have hJ2 : J ss w2 := hJ ss wr w2 (some W.heap.size) hJs hg2 (fun r e => by cases e; exact ⟨Nat.le_refl _, hrg.iter_walk⟩)
      obtain ⟨fn, tmps, assign, body, hy, hR⟩ := hY ss x w2 hJ2 (by omega)
      clear hs2
      gi_wp2
      refine hR.mono ?_
      have hC2 := hC.step hx hlk hat
      rintro e W3 (⟨rfl, hJ3, hk3⟩ | ⟨rfl, hJx3⟩)
      · gi_wp2
        have hrg3 := hrg2.of_walks hk3
        go_roundw
        case rel => exact ⟨_, cnt2, ss ++ [x], hrg3, by simp; omega, hC2, hJ3⟩
        case measure => rw [hrg3.left_eq, hrg.left_eq]; exact hlt
      · gi_wp2
        refine bodyPost_ret (results_none rfl _ _ _) rfl ?_
        exact ⟨⟨_, rfl⟩, .inr ⟨ss ++ [x], trivial, hJx3⟩⟩
theorem keys97_stops (F : Fence) (n : Nat) (hF : F.fn 97) (hro : F.round = none) (hn : 1 ≤ n) (Bm b nn : Nat) (D0 : DataW Unit) (w : World) (hBm : Bm < w.heap.size) (hm : w.cell? ⟨Bm, 0, none⟩ = some (.map (some b))) (hown : w.ownsMap Tryz.prog 65 prElem b nn D0) :
    SeqStopsA F n Tryz.prog 97 #[.pointer (some ⟨Bm, 0, none⟩)] (fun x : Nat => #[Value.int .u32 (x : Int)]) (fun ss => ss.Nodup ∧ (∀ x ∈ ss, x < 4294967296) ∧ ∀ x, x < 4294967296 → (x ∈ ss ↔ has D0 (.int .u32 (x : Int)) = true)) (fun _ => True) (Maps.size D0) w := fun l J Jx W hW hJ _ hY h0 => by
  have hown' : W.ownsMap Tryz.prog 65 prElem b nn D0 := by
    have hbl := hown.lt
    obtain ⟨es, clock, hb, Ft, hs, hD⟩ := hown
    exact ⟨es, clock, (hW.block b hbl).trans hb, Ft, hs, hD⟩
  exact keys97_in F n hF hro hn l Bm b nn D0 J Jx hY W hJ ((hW.cell (p := ⟨Bm, 0, none⟩) hBm).trans hm) hown' h0
end Go.Proofs.YtmicdbplkfdfnaaGreatDoor
set_option linter.unusedVariables false
namespace Go.Proofs.YtmicdbplkfdfnaaGreatDoor
open Go.RowKit Go.Shelf Go.Maps

set_option maxRecDepth 100000 in
set_option maxHeartbeats 2000000 in
theorem text_name (nm : ByteArray) (pl : Int) (w : World) : Calls Tryz.prog 23 #[.agg #[.string nm, .int .u32 pl, .bool false]] w fun e w' => e = .returned (.string nm) ∧ Kx [] w w' := by
  go_enter Tryz.func23, Tryz.ntmps23
  go_wp2
  go_ret
  exact ⟨rfl, Kx.alloc _ _ _⟩
set_option maxRecDepth 100000 in
set_option maxHeartbeats 2000000 in
theorem has_any (N M n i g c : Nat) (k : Value) (L : List ByteArray) (f : ByteArray → Option Nat) (s : ByteArray) (w : World)
    (hN : w.heap[N]? = some (.cells #[.slice (some ⟨g, 0, none⟩) L.length c, .map (some M), k] 121 (0, 0))) (hr : w.cell? ⟨g, i, none⟩ = some (.string s)) (hi : i < L.length) (hL : L.length ≤ 1000) (hm : IMap w M n f) (hs : s.size ≤ maxLen) (hf : f s = some i) :
    Calls Tryz.prog 47 #[.pointer (some ⟨N, 0, none⟩), .int .i64 (i : Int)] w fun e w' => e = .returned (.bool true) ∧ ∃ q, w' = w.drewN q := by
  have c0 := cell_at hN 0 rfl
  have c1 := cell_at hN 1 rfl
  have hl : ∀ q, (Instr.lookup 119 (.map (some M)) (.string s) true).run Tryz.prog (w.drewN q) = .ok (.tuple #[.int .i64 (i : Int), .bool true]) (w.drewN q) := fun q => by
    have h := imap_look (w := w.drewN q) (show IMap (w.drewN q) M n f from hm) s hs
    rw [hf] at h
    exact h
  clear hN hm
  go_enter Tryz.func47, Tryz.ntmps47
  go_wp2
  go_quiet (fail)
  go_wp2
  go_ret
  exact ⟨rfl, _, rfl⟩
set_option maxRecDepth 100000 in
set_option maxHeartbeats 2000000 in
theorem keysNil (w : World) : Calls Tryz.prog 74 #[.map none] w fun e w' => e = .returned (.func (.func 97) #[] #[.pointer (some ⟨w.heap.size, 0, none⟩)]) ∧ w' = w.alloc (Obj.cells #[.map none] 109) := by
  go_enter Tryz.func74, Tryz.ntmps74
  go_wp2
  go_ret
  exact ⟨rfl, rfl⟩
end Go.Proofs.YtmicdbplkfdfnaaGreatDoor
set_option linter.unusedVariables false
namespace Go.Proofs.YtmicdbplkfdfnaaGreatDoor
open Go.RowKit Go.Shelf Go.Maps
attribute [local go_sem] Oper.semAt_some

theorem range_none (W : World) : (Instr.range 109 (.map none)).run Tryz.prog W = .ok (.pointer (some ⟨W.heap.size, 0, none⟩)) (W.alloc (.mapIter none 0 #[] 0)) := by
  kernel_rfl
theorem next_none {W : World} {b : Nat} (h : W.heap[b]? = some (.mapIter none 0 #[] 0)) (ty : TypeId) : (Instr.next (.pointer (some ⟨b, 0, none⟩)) false ty).run Tryz.prog W = .ok (.tuple #[.bool false]) W := by
  simp [Instr.next, getObj, Sem.run, h]
set_option maxRecDepth 100000 in
set_option maxHeartbeats 1000000 in
theorem keys93_nil (F : Fence) (n : Nat) (hF : F.fn 97) (hro : F.round = none) (l Bs : Nat) (J : List Unit → World → Prop) (W : World) (hc : W.cell? ⟨Bs, 0, none⟩ = some (.map none)) (h0 : J [] (W.alloc (.mapIter none 0 #[] 0))) :
    CallsIn F n Tryz.prog 97 (#[.func (.yield l) #[] #[]] ++ #[.pointer (some ⟨Bs, 0, none⟩)]) W fun e W' => (∃ v, e = .returned v) ∧ J [] W' := by
  have hra := range_none
  show CallsIn F n Tryz.prog 97 #[.func (.yield l) #[] #[], .pointer (some ⟨Bs, 0, none⟩)] W _
  refine callsIn_of_wp Tryz.func97 rfl hF ?_ hro
  simp only [Tryz.ntmps97, List.size_toArray, List.length_cons, List.length_nil, Nat.reduceAdd, Nat.reduceSub, Array.replicate_succ, Array.replicate_zero, List.push_toArray, List.append_toArray, List.nil_append, List.cons_append]
  gi_wp2
  gi_loopw [] (fun wr => wr = W.alloc (.mapIter none 0 #[] 0)) (fun _ => 0)
  case atStart => rfl
  case round =>
    subst hrel
    have hn := next_none (heap_alloc_new W (.mapIter none 0 #[] 0))
    gi_wp2
    go_end0
    exact ⟨⟨_, rfl⟩, h0⟩
theorem keys93_stops (F : Fence) (n : Nat) (hF : F.fn 97) (hro : F.round = none) (Bs : Nat) (w : World) (hBs : Bs < w.heap.size) (hc : w.cell? ⟨Bs, 0, none⟩ = some (.map none)) :
    SeqStopsK F n Tryz.prog 97 #[.pointer (some ⟨Bs, 0, none⟩)] (fun x : Unit => #[Value.int .u32 0]) (Below w.heap.size) (fun ys => ys = []) (fun _ => False) 0 w := by
  intro l J Jx W hW hJ _ hY h0
  have hc' : W.cell? ⟨Bs, 0, none⟩ = some (.map none) := (hW.cell (p := ⟨Bs, 0, none⟩) hBs).trans hc
  have h1 : J [] (W.alloc (.mapIter none 0 #[] 0)) := hJ [] W _ none h0 (World.grownBy_alloc W _ none) (fun r e => by cases e)
  exact (keys93_nil F n hF hro l Bs J W hc' h1).mono fun e W' ⟨h1, h2⟩ => ⟨h1, .inl ⟨[], rfl, h2⟩⟩
set_option maxRecDepth 100000 in
set_option maxHeartbeats 2000000 in
theorem appendSeq_nil (Bs : Nat) (w : World) (hc : w.cell? ⟨Bs, 0, none⟩ = some (.map none)) (hBs : Bs < w.heap.size) :
    Calls Tryz.prog 96 #[.slice none 0 0, .func (.func 97) #[] #[.pointer (some ⟨Bs, 0, none⟩)]] w fun e W' => e = .returned (.slice none 0 0) ∧ Below w.heap.size w W' := by
  refine (callsIn_wide (n := 5)).1 ?_
  refine callsIn_of_wp_marks Tryz.func96 rfl trivial ?_ rfl
  simp only [Tryz.ntmps96, List.size_toArray, List.length_cons, List.length_nil, Nat.reduceAdd, Nat.reduceSub, Array.replicate_succ, Array.replicate_zero, List.push_toArray, List.append_toArray, List.nil_append, List.cons_append]
  gi_wp2
  have hs := keys93_stops Fence.wide 4 trivial rfl Bs (w.alloc (Obj.cells #[.slice none 0 0] 113)) (by simp; omega) (by rw [World.cell?_alloc_some _ _ _ (by rw [hc]; rfl)]; exact hc)
  have bO := Boxed.new w 113 (.slice none 0 0)
  have hB0 : Below w.heap.size w (w.alloc (Obj.cells #[.slice none 0 0] 113)) := (Below.refl _ w).alloc (Nat.le_refl _) _
  refine wpIn_rangeFunc_ownG rfl (by omega) (gf := 97) (lb := #[.pointer (some ⟨Bs, 0, none⟩)]) rfl trivial (enters_of Tryz.func97 (by kernel_rfl) rfl)
    hs belowK_t (belowK_b (by simp)) (Below.refl _ _) (fun _ => rfl)
    (fun pre W => Boxed W w.heap.size 113 (.slice none 0 0) ∧ Below w.heap.size w W)
    (fun _ _ _ => False)
    (OwnFrom.and (Own.from (boxed_own _ _ (fun _ => _)) _) (ownFrom_below (Nat.le_refl _) (by simp)))
    (fun _ _ _ _ _ hs _ _ => hs)
    ⟨bO, hB0⟩
    (fun x => { tmps := #[.slice none 0 0, .func (.func 97) #[] #[.pointer (some ⟨Bs, 0, none⟩)], .pointer (some ⟨w.heap.size, 0, none⟩), undef, .slice none 0 0, .int .u32 0, .func (.func 97) #[] #[.pointer (some ⟨Bs, 0, none⟩)], .int .u32 0, undef, undef, undef, undef, undef], defers := [] }) ?assign ?body ?done ?stop
  case assign =>
    intro l x W K hK
    gi_wp2
    exact hK
  case body =>
    rintro l pre x W _ hlt
    omega
  case done =>
    rintro D ys W hD hys ⟨hv, hB⟩ hK
    have hc := hv.cell
    gi_wp2
    refine ⟨by simp, .inl ⟨_, _, rfl, run_takeDeferred hK, ?_⟩⟩
    exact ⟨_, results_tmp rfl _ _ _, rfl, hB.trans (belowK_b (w := w) (Nat.le_refl _) W D _ _ (by simp at hD; omega) hK rfl rfl)⟩
  case stop =>
    rintro D c pre W _ _ h _
    exact h.elim
set_option maxRecDepth 100000 in
set_option maxHeartbeats 2000000 in
theorem collect_nil (Bs : Nat) (w : World) (hc : w.cell? ⟨Bs, 0, none⟩ = some (.map none)) (hBs : Bs < w.heap.size) :
    Calls Tryz.prog 73 #[.func (.func 97) #[] #[.pointer (some ⟨Bs, 0, none⟩)]] w fun e W' => e = .returned (.slice none 0 0) ∧ Below w.heap.size w W' := by
  have c := appendSeq_nil Bs w hc hBs
  go_enter Tryz.func73, Tryz.ntmps73
  go_wp2_with (first | (go_at_call 96; refine c.mono ?_; rintro e w1 ⟨rfl, hb⟩))
  go_ret
  exact ⟨rfl, hb⟩
end Go.Proofs.YtmicdbplkfdfnaaGreatDoor
set_option linter.unusedVariables false
namespace Go.Proofs.YtmicdbplkfdfnaaGreatDoor
open Go.RowKit Go.Shelf Go.Maps

set_option maxRecDepth 100000 in
set_option maxHeartbeats 1000000 in
theorem ins_nil (w : World) : Calls Tryz.prog 127 #[.slice none 0 0, .int .i64 0, .int .i64 0] w fun e w' => (∃ u, e = .returned u) ∧ w' = w := by
  go_enter Tryz.func127, Tryz.ntmps127
  go_wp2
  refine wp_loop_rounds 1 ?_
  rw [rounds_succ]
  go_wp2
  refine bodyPost_end (results_none rfl _ _ _) rfl ?_
  exact ⟨⟨_, rfl⟩, rfl⟩
set_option maxRecDepth 100000 in
set_option maxHeartbeats 1000000 in
theorem pdq_nil (w : World) : Calls Tryz.prog 98 #[.slice none 0 0, .int .i64 0, .int .i64 0, .int .i64 0] w fun e w' => (∃ u, e = .returned u) ∧ w' = w := by
  have c := ins_nil
  go_enter Tryz.func98, Tryz.ntmps98
  go_wp2
  refine wp_loop_rounds 1 ?_
  rw [rounds_succ]
  go_wp2_with (first | (go_at_call 127; refine (c _).mono ?_; rintro e w1 ⟨⟨u, rfl⟩, rfl⟩))
  refine bodyPost_ret (results_none rfl _ _ _) rfl ?_
  exact ⟨⟨_, rfl⟩, rfl⟩
set_option maxRecDepth 100000 in
set_option maxHeartbeats 1000000 in
theorem sort_nil (w : World) : Calls Tryz.prog 75 #[.slice none 0 0] w fun e w' => (∃ u, e = .returned u) ∧ w' = w := by
  have c := pdq_nil
  have c2 := Tryz.bits_Len 0 w (by omega) (by omega)
  go_enter Tryz.func75, Tryz.ntmps75
  have hz : Lib.bitLen (0 : Int).toNat = 0 := by decide
  rw [hz] at c2
  go_wp2_with (first | (go_at_call 99; refine c2.mono ?_; rintro e w1 ⟨rfl, rfl⟩) | (go_at_call 98; refine (c _).mono ?_; rintro e w2 ⟨⟨u, rfl⟩, rfl⟩))
  refine bodyPost_end (results_none rfl _ _ _) rfl ?_
  exact ⟨⟨_, rfl⟩, rfl⟩
set_option maxRecDepth 100000 in
set_option maxHeartbeats 1000000 in
theorem places_nil (b : Nat) (a : Option Addr) (c : Nat) (w : World) (h7 : w.cell? ⟨b, 7, none⟩ = some (.slice a 0 c)) (h8 : w.cell? ⟨b, 8, none⟩ = some (.map none)) :
    Calls Tryz.prog 46 #[.pointer (some ⟨b, 0, none⟩)] w fun e w' => e = .returned (.slice none 0 0) ∧ Kx [] w w' := by
  have cS := sort_nil
  have c1 := keysNil w
  have c2 := collect_nil w.heap.size (w.alloc (Obj.cells #[.map none] 109)) (cell_at (heap_alloc_new w (Obj.cells #[.map none] 109)) 0 rfl) (by simp)
  have hk7 : ∀ W, Kx [] w W → W.cell? ⟨b, 7, none⟩ = some (.slice a 0 c) := fun W hW => hW.cell h7 (by simp)
  have HK7 := (show Hid _ from hk7)
  clear hk7
  go_enter Tryz.func46, Tryz.ntmps46
  go_wp2_with (first | (go_at_call 74; refine c1.mono ?_; rintro e w1 ⟨rfl, rfl⟩) | (go_at_call 73; refine c2.mono ?_; rintro e w2 ⟨rfl, hb⟩; have hk2 : Kx [] w w2 := (Kx.alloc [] w _).same (Kx.ofBelow hb []); have h72 := HK7.out w2 hk2))
  refine wp_loop_rounds 1 ?_
  rw [rounds_succ]
  go_wp2_with (first | (go_at_call 75; refine (cS _).mono ?_; rintro e w3 ⟨⟨u, rfl⟩, rfl⟩))
  go_ret
  exact ⟨rfl, hk2⟩
end Go.Proofs.YtmicdbplkfdfnaaGreatDoor
set_option linter.unusedVariables false
namespace Go.Proofs.YtmicdbplkfdfnaaGreatDoor
open Go.RowKit Go.Shelf Go.Maps
attribute [local go_sem] Oper.semAt_some

theorem info65 : (Tryz.prog.info? 65).map (fun i => (i.zero, i.size, i.bytes)) = some (some (.int .u32 0), 1, 4) := by kernel_rfl
def u32v (k : Nat) : Value := .int .u32 (k : Int)
theorem row_not_walk {w : World} {B : Nat} {e : TypeId} {sz : Nat} {v : Value} {n : Nat} {xs : List Value} (h : w.ownsRow B e sz v n xs) : ∀ (j : Nat) (o : Obj), v.ownBlock = some j → w.heap[j]? = some o → o.isWalk = false := by
  intro j o hj ho
  rcases h.2 with ⟨rfl, _⟩ | ⟨g, cap, cur, rfl, _, hg, _⟩
  · simp [Value.ownBlock] at hj
  · simp [Value.ownBlock] at hj
    subst hj
    rw [hg] at ho
    cases ho
    rfl
set_option maxRecDepth 100000 in
set_option maxHeartbeats 2000000 in
theorem appendSeq_any (Bm b nn : Nat) (D0 : DataW Unit) (w : World) (hm : w.cell? ⟨Bm, 0, none⟩ = some (.map (some b))) (hown : w.ownsMap Tryz.prog 65 prElem b nn D0) (hBm : Bm < w.heap.size) (hN : Maps.size D0 ≤ 1000000) :
    Calls Tryz.prog 96 #[.slice none 0 0, .func (.func 97) #[] #[.pointer (some ⟨Bm, 0, none⟩)]] w fun e W' => ∃ (v : Value) (ss : List Nat), e = .returned v ∧ (ss.Nodup ∧ (∀ x ∈ ss, x < 4294967296) ∧ ∀ x, x < 4294967296 → (x ∈ ss ↔ has D0 (.int .u32 (x : Int)) = true)) ∧ W'.ownsRow w.heap.size 65 1 v ss.length (ss.map u32v) ∧ Below w.heap.size w W' := by
  refine (callsIn_wide (n := 5)).1 ?_
  obtain ⟨i0, hi, hz0, hz1, hz2⟩ := info_parts info65
  refine callsIn_of_wp_marks Tryz.func96 rfl trivial ?_ rfl
  simp only [Tryz.ntmps96, List.size_toArray, List.length_cons, List.length_nil, Nat.reduceAdd, Nat.reduceSub, Array.replicate_succ, Array.replicate_zero, List.push_toArray, List.append_toArray, List.nil_append, List.cons_append]
  gi_wp2
  have hs := keys97_stops Fence.wide 4 trivial rfl (by omega) Bm b nn D0 (w.alloc (Obj.cells #[.slice none 0 0] 113)) (by simp; omega) (by rw [World.cell?_alloc_some _ _ _ (by rw [hm]; rfl)]; exact hm) (hown.kept (World.grownBy_alloc w _ none) (by simp))
  have bO := Boxed.new w 113 (.slice none 0 0)
  have hB0 : Below w.heap.size w (w.alloc (Obj.cells #[.slice none 0 0] 113)) := (Below.refl _ w).alloc (Nat.le_refl _) _
  refine wpIn_rangeFunc_ownG rfl (by omega) (gf := 97) (lb := #[.pointer (some ⟨Bm, 0, none⟩)]) rfl trivial (enters_of Tryz.func97 (by kernel_rfl) rfl)
    (seqStopsA_iff.1 hs) KeepsWalks.trans (fun W l o o' _ hl _ hw => KeepsWalks.putObj o' hl hw) (Below.refl _ _) (fun _ => rfl)
    (fun pre W => (∃ v, Boxed W w.heap.size 113 v ∧ W.ownsRow w.heap.size 65 1 v pre.length (pre.map u32v) ∧ True) ∧ Below w.heap.size w W)
    (fun _ _ _ => False)
    (OwnFrom.and (Own.from (holdsRow_own w.heap.size w.heap.size 113 65 1 (fun pre : List Nat => pre.length) (fun pre => pre.map u32v) (fun pre v => True)) _) (ownFrom_below (Nat.le_refl _) (by simp)))
    (fun _ _ _ _ _ hs _ _ => hs)
    ⟨⟨_, bO, World.ownsRow_nil _ _ _ _, trivial⟩, hB0⟩
    (fun x => { tmps := #[.slice none 0 0, .func (.func 97) #[] #[.pointer (some ⟨Bm, 0, none⟩)], .pointer (some ⟨w.heap.size, 0, none⟩), undef, .slice none 0 0, .int .u32 (x : Int), .func (.func 97) #[] #[.pointer (some ⟨Bm, 0, none⟩)], .int .u32 (x : Int), undef, undef, undef, undef, undef], defers := [] }) ?assign ?body ?done ?stop
  case assign =>
    intro l x W K hK
    gi_wp2
    exact hK
  case body =>
    rintro l pre x W ⟨⟨v, hv, hrow, -⟩, hB⟩ hlt
    have hc := hv.cell
    have q1 : pre.length + 1 ≤ maxLen := by unfold maxLen; omega
    gi_wp2_with (first
      | (gi_at_builtin; refine wpListIn_append_own _ rfl _ _ 113 rfl w.heap.size 65 i0 (.int .u32 0) 1 4 Tryz.underlying113 hi hz0 hz1 hz2 rfl (by decide) _ _ _ rfl (hrow.alloc _) ⟨W.heap.size, 0, none⟩ 1 1 [.int .u32 (x : Int)] rfl rfl (cells_new W [.int .u32 (x : Int)] 65) (by intro u hu; simp at hu; rw [hu]; rfl) q1 (by omega) (by have := hB.size; simp; omega) ?_; intro v' w2 hown' hgrow _; obtain ⟨g', cap', rfl⟩ := ownsRow_pos (by omega) hown'; obtain ⟨hv1, hv2, hr2, hk2, hb2⟩ := hv.appended (by decide) hrow hB.size (Nat.le_refl _) hown' hgrow; have hc1 := hv1.cell; have hf1 := hv1.frozen))
    have hgrow' : (W.alloc (Obj.cells #[.int .u32 (x : Int)] 65)).grownBy w2 v.ownBlock := hgrow
    have hkw : KeepsWalks W w2 := (KeepsWalks.alloc W (Obj.cells #[.int .u32 (x : Int)] 65)).trans (KeepsWalks.of_grownBy hgrow' (row_not_walk (hrow.alloc _)))
    exact ⟨hk2.from _, hkw.trans (KeepsWalks.setCell _ _ _), ⟨_, hv2, by simpa [u32v] using hr2, trivial⟩, hB.trans hb2⟩
  case done =>
    rintro D ys W hD hys ⟨⟨v, hv, hrow, -⟩, hB⟩ hK
    have hc := hv.cell
    gi_wp2
    refine ⟨by simp, .inl ⟨_, _, rfl, run_takeDeferred hK, ?_⟩⟩
    refine ⟨_, results_tmp rfl _ _ _, v, ys, rfl, hys, ?_, hB.trans (belowK_b (w := w) (Nat.le_refl _) W D _ _ (by simp at hD; omega) hK rfl rfl)⟩
    refine hrow.kept (grownBy_putObj' W D _) (.inr fun e => ?_)
    rcases hrow.2 with ⟨rfl, _⟩ | ⟨g, cap, cur, rfl, _, hg, _⟩
    · cases e
    · have e2 : g = D := by simpa [Value.ownBlock] using e
      subst e2
      rw [hK] at hg
      cases hg
  case stop =>
    rintro D c pre W _ _ h _
    exact h.elim
set_option maxRecDepth 100000 in
theorem collect_any (Bm b nn : Nat) (D0 : DataW Unit) (w : World) (hm : w.cell? ⟨Bm, 0, none⟩ = some (.map (some b))) (hown : w.ownsMap Tryz.prog 65 prElem b nn D0) (hBm : Bm < w.heap.size) (hN : Maps.size D0 ≤ 1000000) :
    Calls Tryz.prog 73 #[.func (.func 97) #[] #[.pointer (some ⟨Bm, 0, none⟩)]] w fun e W' => ∃ (v : Value) (ss : List Nat), e = .returned v ∧ (ss.Nodup ∧ (∀ x ∈ ss, x < 4294967296) ∧ ∀ x, x < 4294967296 → (x ∈ ss ↔ has D0 (.int .u32 (x : Int)) = true)) ∧ W'.ownsRow w.heap.size 65 1 v ss.length (ss.map u32v) ∧ Below w.heap.size w W' := by
  have c := appendSeq_any Bm b nn D0 w hm hown hBm hN
  go_enter Tryz.func73, Tryz.ntmps73
  go_wp2_with (first | (go_at_call 96; refine c.mono ?_; rintro e w1 ⟨v, ss, rfl, h1, h2, h3⟩))
  go_ret
  exact ⟨v, ss, rfl, h1, h2, h3⟩
end Go.Proofs.YtmicdbplkfdfnaaGreatDoor
