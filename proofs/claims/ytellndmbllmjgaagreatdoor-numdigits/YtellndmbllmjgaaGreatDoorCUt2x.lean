/- The walk of appendText: a code point, or a half that stands alone, goes in behind the bytes that a row owns. -/
import Derived.Test.YtellndmbllmjgaaGreatDoorChecked
import Derived.Test.YtellndmbllmjgaaGreatDoorCDp3x
import Derived.WalkKit
import Derived.WalkSpells
import Derived.WalkLawsBesides
import Derived.Maps.AppendAt
import Derived.Laws.AppendOwn
import Derived.Laws.BitsLemmas
import Derived.Deep.DeepMust
import Derived.Test.YtellndmbllmjgaaGreatDoorCDa5
import Derived.RangeFuncBox
import Derived.RangeFuncLeaves
import Derived.RangeFuncCalls
import Derived.RangeFuncNested
import Derived.Shelf.Abstract
import Derived.OwnWalkIn
import Derived.TacticsInMore
import Derived.LoopNIn
import Derived.LoopIn
import Derived.RegionIn
import Derived.BigRegionIn
set_option linter.unusedVariables false
namespace Go.Proofs.YtellndmbllmjgaaGreatDoor.Ut
open Go.RowKit
theorem info5 : (Tryz.prog.info? 5).map (fun i => (i.zero, i.size, i.bytes)) = some (some (.int .u8 0), 1, 1) := by kernel_rfl
theorem info24 : (Tryz.prog.info? 58).map (fun i => (i.zero, i.size, i.bytes)) = some (some (.int .u16 0), 1, 2) := by kernel_rfl

theorem i32_and63 (x : Int) (h0 : 0 ≤ x) (h1 : x < 2147483648) : bits .and .i32 x 63 = x % 64 := bits_mask .i32 31 (by decide) wraps_i32 6 (by decide) x h0 h1
theorem or224 (q : Int) (h0 : 0 ≤ q) (h1 : q < 16) : bits .or .i32 224 q % 256 = 224 + q := by
  rw [bits_join .i32 31 (by decide) wraps_i32 5 224 q (by decide) (by decide) (by decide) h0 (by omega) (by omega)]
  omega
theorem or128 (x : Int) (h0 : 0 ≤ x) (h1 : x < 2147483648) : bits .or .i32 128 (bits .and .i32 x 63) % 256 = 128 + x % 64 := by
  rw [i32_and63 x h0 h1, bits_join .i32 31 (by decide) wraps_i32 6 128 (x % 64) (by decide) (by decide) (by decide) (by omega) (by omega) (by omega)]
  omega

/-- New cells, as a list. -/
theorem cells_new (w : World) (l : List Value) (t : TypeId) : ∀ j u, l[j]? = some u → (w.alloc (.cells l.toArray t)).cell? ((⟨w.heap.size, 0, none⟩ : Addr).add j) = some u := by
  intro j u hj
  have e : ((⟨w.heap.size, 0, none⟩ : Addr).add j) = ⟨w.heap.size, j, none⟩ := by
    unfold Addr.add
    split <;> simp_all
  rw [e]
  have h := heap_alloc_new w (Obj.cells l.toArray t)
  simp only [World.cell?, h]
  simpa using hj
theorem one_ints (k : IntKind) (l : List Int) : ∀ u ∈ l.map (Value.int k), u.oneCell' = true := by
  intro u hu
  obtain ⟨x, _, rfl⟩ := List.mem_map.1 hu
  rfl

set_option maxHeartbeats 1000000 in
set_option maxRecDepth 100000 in
theorem app_half (B : Nat) (v : Value) (n : Nat) (xs : List Value) (r : Int) (h0 : 55296 ≤ r) (h1 : r < 57344) (w : World) (hown : w.ownsRow B 5 1 v n xs) (hlen : n + 4 ≤ 140737488355328) (hBw : B ≤ w.heap.size) :
    Calls Tryz.prog 138 #[v, .int .i32 r] w fun e w' => ∃ v', e = .returned v' ∧ w'.ownsRow B 5 1 v' (n + 3) (xs ++ [.int .u8 (224 + r / 4096), .int .u8 (128 + r / 64 % 64), .int .u8 (128 + r % 64)]) ∧ ∃ o, (w.alloc o).grownBy w' v.ownBlock := by
  obtain ⟨i0, hi, hz0, hz1, hz2⟩ := info_parts info5
  have b1 := or224 (r / 4096) (by omega) (by omega)
  have b2 := or128 (r / 64) (by omega) (by omega)
  have b3 := or128 r (by omega) (by omega)
  have q3 : n + 3 ≤ maxLen := by unfold maxLen; omega
  by_cases hf : r < 56320
  all_goals
    go_enter Tryz.func138, Tryz.ntmps138
    go_wp2_with (first | (at_builtin; refine wpList_append_own _ rfl _ _ 92 rfl B 5 i0 (.int .u8 0) 1 1 Tryz.underlying92 hi hz0 hz1 hz2 rfl (by decide) _ _ _ rfl (hown.alloc _) ⟨w.heap.size, 0, none⟩ 3 3 [.int .u8 (224 + r / 4096), .int .u8 (128 + r / 64 % 64), .int .u8 (128 + r % 64)] rfl rfl (cells_new w [.int .u8 (224 + r / 4096), .int .u8 (128 + r / 64 % 64), .int .u8 (128 + r % 64)] 5) (one_ints .u8 [224 + r / 4096, 128 + r / 64 % 64, 128 + r % 64]) q3 (by omega) (by simp; omega) ?_; intro v' w2 hown' hgrow _) | go_in)
    go_ret
    exact ⟨_, rfl, hown', _, hgrow⟩

set_option maxHeartbeats 1000000 in
set_option maxRecDepth 100000 in
theorem app_one (B : Nat) (v : Value) (n : Nat) (xs : List Value) (r : Int) (h0 : 0 ≤ r) (h1 : r < 128) (w : World) (hown : w.ownsRow B 5 1 v n xs) (hlen : n + 4 ≤ 140737488355328) (hBw : B ≤ w.heap.size) :
    Calls Tryz.prog 138 #[v, .int .i32 r] w fun e w' => ∃ v', e = .returned v' ∧ w'.ownsRow B 5 1 v' (n + 1) (xs ++ [.int .u8 r]) ∧ ∃ o, (w.alloc o).grownBy w' v.ownBlock := by
  obtain ⟨i0, hi, hz0, hz1, hz2⟩ := info_parts info5
  have q3 : n + 1 ≤ maxLen := by unfold maxLen; omega
  go_enter Tryz.func138, Tryz.ntmps138
  go_wp2_with (first | (at_builtin; refine wpList_append_own _ rfl _ _ 92 rfl B 5 i0 (.int .u8 0) 1 1 Tryz.underlying92 hi hz0 hz1 hz2 rfl (by decide) _ _ _ rfl (hown.alloc _) ⟨w.heap.size, 0, none⟩ 1 1 [.int .u8 r] rfl rfl (cells_new w [.int .u8 r] 5) (one_ints .u8 [r]) q3 (by omega) (by simp; omega) ?_; intro v' w2 hown' hgrow _) | go_in)
  go_ret
  exact ⟨_, rfl, hown', _, hgrow⟩

set_option maxHeartbeats 1000000 in
set_option maxRecDepth 100000 in
theorem app_two (B : Nat) (v : Value) (n : Nat) (xs : List Value) (r : Int) (h0 : 128 ≤ r) (h1 : r < 2048) (w : World) (hown : w.ownsRow B 5 1 v n xs) (hlen : n + 4 ≤ 140737488355328) (hBw : B ≤ w.heap.size) :
    Calls Tryz.prog 138 #[v, .int .i32 r] w fun e w' => ∃ v', e = .returned v' ∧ w'.ownsRow B 5 1 v' (n + 2) (xs ++ [.int .u8 (192 + r / 64), .int .u8 (128 + r % 64)]) ∧ ∃ o, (w.alloc o).grownBy w' v.ownBlock := by
  obtain ⟨i0, hi, hz0, hz1, hz2⟩ := info_parts info5
  have q3 : n + 2 ≤ maxLen := by unfold maxLen; omega
  go_enter Tryz.func138, Tryz.ntmps138
  go_wp2_with (first | (at_builtin; refine wpList_append_own _ rfl _ _ 92 rfl B 5 i0 (.int .u8 0) 1 1 Tryz.underlying92 hi hz0 hz1 hz2 rfl (by decide) _ _ _ rfl (hown.alloc _) ⟨w.heap.size, 0, none⟩ 2 2 [.int .u8 (192 + r / 64), .int .u8 (128 + r % 64)] rfl rfl (cells_new w [.int .u8 (192 + r / 64), .int .u8 (128 + r % 64)] 5) (one_ints .u8 [192 + r / 64, 128 + r % 64]) q3 (by omega) (by simp; omega) ?_; intro v' w2 hown' hgrow _) | go_in)
  go_ret
  exact ⟨_, rfl, hown', _, hgrow⟩

set_option maxHeartbeats 1000000 in
set_option maxRecDepth 100000 in
theorem app_three (B : Nat) (v : Value) (n : Nat) (xs : List Value) (r : Int) (hr : (2048 ≤ r ∧ r < 55296) ∨ (57343 < r ∧ r ≤ 65535)) (w : World) (hown : w.ownsRow B 5 1 v n xs) (hlen : n + 4 ≤ 140737488355328) (hBw : B ≤ w.heap.size) :
    Calls Tryz.prog 138 #[v, .int .i32 r] w fun e w' => ∃ v', e = .returned v' ∧ w'.ownsRow B 5 1 v' (n + 3) (xs ++ [.int .u8 (224 + r / 4096), .int .u8 (128 + r / 64 % 64), .int .u8 (128 + r % 64)]) ∧ ∃ o, (w.alloc o).grownBy w' v.ownBlock := by
  obtain ⟨i0, hi, hz0, hz1, hz2⟩ := info_parts info5
  have q3 : n + 3 ≤ maxLen := by unfold maxLen; omega
  rcases hr with ⟨h0, h1⟩ | ⟨h0, h1⟩
  all_goals
    go_enter Tryz.func138, Tryz.ntmps138
    go_wp2_with (first | (at_builtin; refine wpList_append_own _ rfl _ _ 92 rfl B 5 i0 (.int .u8 0) 1 1 Tryz.underlying92 hi hz0 hz1 hz2 rfl (by decide) _ _ _ rfl (hown.alloc _) ⟨w.heap.size, 0, none⟩ 3 3 [.int .u8 (224 + r / 4096), .int .u8 (128 + r / 64 % 64), .int .u8 (128 + r % 64)] rfl rfl (cells_new w [.int .u8 (224 + r / 4096), .int .u8 (128 + r / 64 % 64), .int .u8 (128 + r % 64)] 5) (one_ints .u8 [224 + r / 4096, 128 + r / 64 % 64, 128 + r % 64]) q3 (by omega) (by simp; omega) ?_; intro v' w2 hown' hgrow _) | go_in)
    go_ret
    exact ⟨_, rfl, hown', _, hgrow⟩

set_option maxHeartbeats 1000000 in
set_option maxRecDepth 100000 in
theorem app_four (B : Nat) (v : Value) (n : Nat) (xs : List Value) (r : Int) (h0 : 65535 < r) (h1 : r ≤ 1114111) (w : World) (hown : w.ownsRow B 5 1 v n xs) (hlen : n + 4 ≤ 140737488355328) (hBw : B ≤ w.heap.size) :
    Calls Tryz.prog 138 #[v, .int .i32 r] w fun e w' => ∃ v', e = .returned v' ∧ w'.ownsRow B 5 1 v' (n + 4) (xs ++ [.int .u8 (240 + r / 262144), .int .u8 (128 + r / 4096 % 64), .int .u8 (128 + r / 64 % 64), .int .u8 (128 + r % 64)]) ∧ ∃ o, (w.alloc o).grownBy w' v.ownBlock := by
  obtain ⟨i0, hi, hz0, hz1, hz2⟩ := info_parts info5
  have q3 : n + 4 ≤ maxLen := by unfold maxLen; omega
  go_enter Tryz.func138, Tryz.ntmps138
  go_wp2_with (first | (at_builtin; refine wpList_append_own _ rfl _ _ 92 rfl B 5 i0 (.int .u8 0) 1 1 Tryz.underlying92 hi hz0 hz1 hz2 rfl (by decide) _ _ _ rfl (hown.alloc _) ⟨w.heap.size, 0, none⟩ 4 4 [.int .u8 (240 + r / 262144), .int .u8 (128 + r / 4096 % 64), .int .u8 (128 + r / 64 % 64), .int .u8 (128 + r % 64)] rfl rfl (cells_new w [.int .u8 (240 + r / 262144), .int .u8 (128 + r / 4096 % 64), .int .u8 (128 + r / 64 % 64), .int .u8 (128 + r % 64)] 5) (one_ints .u8 [240 + r / 262144, 128 + r / 4096 % 64, 128 + r / 64 % 64, 128 + r % 64]) q3 (by omega) (by simp; omega) ?_; intro v' w2 hown' hgrow _) | go_in)
  go_ret
  exact ⟨_, rfl, hown', _, hgrow⟩

/-- A byte as a cell. -/
def bv (b : Nat) : Value := .int .u8 (b : Int)
/-- **appendText, at every code point and every half that stands alone.** -/
theorem appendText_any (B : Nat) (v : Value) (n : Nat) (xs : List Value) (r : Nat) (hr : r ≤ 1114111) (w : World) (hown : w.ownsRow B 5 1 v n xs) (hlen : n + 4 ≤ 140737488355328) (hBw : B ≤ w.heap.size) :
    Calls Tryz.prog 138 #[v, .int .i32 (r : Int)] w fun e w' => ∃ v', e = .returned v' ∧ w'.ownsRow B 5 1 v' (n + (Un.encR r).length) (xs ++ (Un.encR r).map bv) ∧ ∃ o, (w.alloc o).grownBy w' v.ownBlock := by
  unfold Un.encR
  by_cases h1 : r < 128
  · rw [if_pos h1]
    exact app_one B v n xs r (by omega) (by omega) w hown hlen hBw
  rw [if_neg h1]
  by_cases h2 : r < 2048
  · rw [if_pos h2]
    exact app_two B v n xs r (by omega) (by omega) w hown hlen hBw
  rw [if_neg h2]
  by_cases h3 : r < 65536
  · rw [if_pos h3]
    by_cases hh : 55296 ≤ r ∧ r < 57344
    · exact app_half B v n xs r (by omega) (by omega) w hown hlen hBw
    · exact app_three B v n xs r (by omega) w hown hlen hBw
  rw [if_neg h3]
  exact app_four B v n xs r (by omega) (by omega) w hown hlen hBw
end Go.Proofs.YtellndmbllmjgaaGreatDoor.Ut
/- slices.Backward over words; part. -/
set_option linter.unusedVariables false
namespace Go.Proofs.YtellndmbllmjgaaGreatDoor
open Go.RowKit Go.Shelf Go.Sort Fs Fl
attribute [local go_sem] Oper.semAt_some

/-- A place below n, and a word. -/
abbrev Wi (n : Nat) := { p : Nat × Nat // p.1 < n ∧ p.2 < 4294967296 }
/-- The row holds words. -/
def RowOk (n rb : Nat) (W : World) : Prop := ∀ j, j < n → ∃ z : Nat, z < 4294967296 ∧ W.cell? ⟨rb, j, none⟩ = some (.int .u32 (z : Int))
/-- What a round keeps. -/
def Kq (n rb Bs : Nat) (W W' : World) : Prop := (RowOk n rb W → RowOk n rb W') ∧ W'.heap[Bs]? = W.heap[Bs]?
theorem Kq.refl (n rb Bs : Nat) (W : World) : Kq n rb Bs W W := ⟨id, rfl⟩
theorem Kq.trans {n rb Bs : Nat} {A B C : World} (h : Kq n rb Bs A B) (k : Kq n rb Bs B C) : Kq n rb Bs A C := ⟨fun x => k.1 (h.1 x), k.2.trans h.2⟩
set_option maxRecDepth 100000 in
set_option maxHeartbeats 2000000 in
theorem back1_in (F : Fence) (nn : Nat) (hF : F.fn 243) (hro : F.round = none) (hn : 2 ≤ nn) (l Bs rb n cap : Nat) (hlen : n ≤ 100000) (J Jx : List (Wi n) → World → Prop)
    (hY : ∀ pre (x : Wi n) W, J pre W → pre.length < n → YieldAt F (nn - 1) Tryz.prog l #[.int .i64 ((x.1.1 : Nat) : Int), .int .u32 ((x.1.2 : Nat) : Int)] W fun e W' =>
      (e = .returned (.bool true) ∧ J (pre ++ [x]) W' ∧ Kq n rb Bs W W') ∨ (e = .returned (.bool false) ∧ Jx (pre ++ [x]) W'))
    (W : World) (hBox : W.cell? ⟨Bs, 0, none⟩ = some (.slice (some ⟨rb, 0, none⟩) n cap)) (hc : RowOk n rb W) (h0 : J [] W) :
    CallsIn F nn Tryz.prog 243 #[.func (.yield l) #[] #[], .pointer (some ⟨Bs, 0, none⟩)] W fun e W' => (∃ v, e = .returned v) ∧
      ((∃ ys : List (Wi n), ys.map (fun x => x.1.1) = (List.range n).reverse ∧ J ys W') ∨ (∃ pre, True ∧ Jx pre W')) := by
  refine callsIn_of_wp Tryz.func243 rfl hF ?_ hro
  simp only [Tryz.ntmps243, List.size_toArray, List.length_cons, List.length_nil, Nat.reduceAdd, Nat.reduceSub, Array.replicate_succ, Array.replicate_zero, List.push_toArray, List.append_toArray, List.nil_append, List.cons_append]
  have hn1 : 1 ≤ nn := by omega
  gi_wp2
  gi_loopw [3] (fun i wr => ∃ (k : Nat) (pre : List (Wi n)), k ≤ n ∧ pre.length = n - k ∧ i = .int .i64 ((k : Int) - 1) ∧ pre.map (fun x => x.1.1) = (List.range' k (n - k)).reverse ∧ J pre wr ∧ Kq n rb Bs W wr)
    (fun i _ => (intOf i + 1).toNat)
  case atStart => exact ⟨n, [], Nat.le_refl _, by simp, rfl, by simp, h0, Kq.refl _ _ _ _⟩
  case round =>
    obtain ⟨k, pre, hk, hpl, rfl, hpre, hJs, hnx⟩ := hrel
    have hbx : wr.cell? ⟨Bs, 0, none⟩ = some (.slice (some ⟨rb, 0, none⟩) n cap) := (World.cell?_of_block (a := ⟨Bs, 0, none⟩) hnx.2).trans hBox
    have hcx : RowOk n rb wr := hnx.1 hc
    have HP : Hid (pre.map (fun x => x.1.1) = (List.range' k (n - k)).reverse) := hpre
    have HL : Hid (pre.length = n - k) := hpl
    have HK : Hid (Kq n rb Bs W wr) := hnx
    clear hpre hpl hnx hc
    rcases Nat.eq_zero_or_pos k with hk0 | hk0
    · subst hk0
      clear hY hcx
      gi_wp2
      go_end0
      refine ⟨⟨_, rfl⟩, .inl ⟨pre, ?_, hJs⟩⟩
      rw [HP.out, Nat.sub_zero, ← List.range_eq_range']
    · obtain ⟨j, rfl⟩ : ∃ j, k = j + 1 := ⟨k - 1, by omega⟩
      obtain ⟨z, hz, hcell⟩ := hcx j (by omega)
      obtain ⟨x, HX⟩ : ∃ x : Wi n, Hid (x.1 = (j, z)) := ⟨⟨(j, z), by simp; omega, hz⟩, rfl⟩
      obtain ⟨fn, tmps, assign, body, hy, hR⟩ := hY pre x wr hJs (by rw [HL.out]; omega)
      rw [HX.out] at hy
      have ej : ((j + 1 : Nat) : Int) - 1 = (j : Int) := by omega
      have k1 : (j : Int) < (n : Int) := by omega
      rw [ej]
      clear hY hcx
      gi_wp2
      refine hR.mono ?_
      rintro e W3 (⟨rfl, hJ3, hk3⟩ | ⟨rfl, hJx3⟩)
      · gi_wp2
        go_roundw
        case rel =>
          refine ⟨j, pre ++ [x], by omega, by rw [List.length_append, HL.out]; simp; omega, rfl, ?_, hJ3, HK.out.trans hk3⟩
          rw [List.map_append, HP.out, show n - j = (n - (j + 1)) + 1 by omega, List.range'_succ, List.reverse_cons]
          simp [HX.out]
        case measure => simp [intOf]
      · gi_wp2
        refine bodyPost_ret (results_none rfl _ _ _) rfl ?_
        exact ⟨⟨_, rfl⟩, .inr ⟨_, trivial, hJx3⟩⟩
set_option maxHeartbeats 1000000 in
theorem back_in (F : Fence) (n : Nat) (hF : F.fn 200) (hro : F.round = none) (sv : Value) (hsv : ∃ a m c, sv = .slice a m c) (w : World) :
    CallsIn F n Tryz.prog 200 #[sv] w fun e w' => e = .returned (.func (.func 243) #[] #[.pointer (some ⟨w.heap.size, 0, none⟩)]) ∧ w' = w.alloc (.cells #[sv] 117) := by
  obtain ⟨a, m, c, rfl⟩ := hsv
  refine callsIn_of_wp Tryz.func200 rfl hF ?_ hro
  simp only [Tryz.ntmps200, List.size_toArray, List.length_cons, List.length_nil, Nat.reduceAdd, Nat.reduceSub, Array.replicate_succ, Array.replicate_zero, List.push_toArray, List.append_toArray, List.nil_append, List.cons_append]
  gi_wp2
  go_ret
  exact ⟨rfl, rfl⟩
theorem RowOk.below {n rb : Nat} {A B : World} (h : RowOk n rb A) (hb : Below A.heap.size A B) (hr : rb < A.heap.size) : RowOk n rb B := fun j hj => by
  obtain ⟨z, h1, h2⟩ := h j hj
  exact ⟨z, h1, (hb.cell (p := ⟨rb, j, none⟩) hr).trans h2⟩
theorem back_stops (F : Fence) (nn : Nat) (hF : F.fn 243) (hro : F.round = none) (hn : 2 ≤ nn) (Bs rb n cap : Nat) (hlen : n ≤ 100000) (w : World) (hBs : Bs < w.heap.size) (hrb : rb < w.heap.size)
    (hc : w.cell? ⟨Bs, 0, none⟩ = some (.slice (some ⟨rb, 0, none⟩) n cap)) (hR : RowOk n rb w) :
    SeqStopsK F nn Tryz.prog 243 #[.pointer (some ⟨Bs, 0, none⟩)] (fun x : Wi n => #[Value.int .i64 ((x.1.1 : Nat) : Int), Value.int .u32 ((x.1.2 : Nat) : Int)]) (Kq n rb Bs) (fun ys => ys.map (fun x => x.1.1) = (List.range n).reverse) (fun _ => True) n w := by
  intro l J Jx W hW _ _ hY h0
  exact back1_in F nn hF hro hn l Bs rb n cap hlen J Jx hY W ((hW.cell (p := ⟨Bs, 0, none⟩) hBs).trans hc) (hR.below hW hrb) h0
end Go.Proofs.YtellndmbllmjgaaGreatDoor
