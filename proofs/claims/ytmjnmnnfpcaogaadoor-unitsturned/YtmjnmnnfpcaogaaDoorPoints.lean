/- The walks of points and of the function that it hands back: the code points of units, one behind the other, for every loop body that keeps what lay below. -/
import Derived.Test.YtmjnmnnfpcaogaaDoorApp
import Derived.RangeFuncBox
import Derived.RangeFuncLeaves
import Derived.RangeFuncCalls
import Derived.Shelf.Abstract
import Derived.OwnWalkIn
import Derived.TacticsInMore
import Derived.LoopNIn
import Derived.LoopIn
set_option linter.unusedVariables false
namespace Go.Proofs.YtmjnmnnfpcaogaaDoor
open Go.RowKit Go.Shelf
attribute [local go_sem] Oper.semAt_some

/-- A code point, or a half. -/
abbrev Pt := { r : Nat // r ≤ 1114111 }

/-- The slice value sv holds the units us, in a block below n₀; or it has no element and there are none. -/
def Row16 (n₀ : Nat) (W : World) (sv : Value) (us : List Nat) : Prop :=
  ((∃ a c, sv = .slice a 0 c) ∧ us = []) ∨ ∃ b off cap, sv = .slice (some ⟨b, off, none⟩) us.length cap ∧ b < n₀ ∧ ∀ j, j < us.length → W.cell? ⟨b, off + j, none⟩ = some (.int .u16 ((us[j]?.getD 0 : Nat) : Int))
theorem Row16.below {n₀ : Nat} {A B : World} (h : Below n₀ A B) {sv : Value} {us : List Nat} : Row16 n₀ A sv us → Row16 n₀ B sv us
  | .inl e => .inl e
  | .inr ⟨b, off, cap, e, hb, hc⟩ => .inr ⟨b, off, cap, e, hb, fun j hj => (h.cell (p := ⟨b, off + j, none⟩) hb).trans (hc j hj)⟩

/-- What a round keeps: the block rb (the units' own) and the block Bs (the box that holds them). -/
def Kb (rb Bs : Nat) (W W' : World) : Prop := W'.heap[rb]? = W.heap[rb]? ∧ W'.heap[Bs]? = W.heap[Bs]?
theorem Kb.refl (rb Bs : Nat) (W : World) : Kb rb Bs W W := ⟨rfl, rfl⟩
theorem Kb.trans {rb Bs : Nat} {A B C : World} (h : Kb rb Bs A B) (k : Kb rb Bs B C) : Kb rb Bs A C := ⟨k.1.trans h.1, k.2.trans h.2⟩
theorem Kb.putObj {rb Bs : Nat} {w : World} (hn : rb < w.heap.size) (hB : Bs < w.heap.size) (W : World) (l : Nat) (o o' : Obj) (hl : w.heap.size ≤ l) (h : W.heap[l]? = some o) (h1 : o.isCells = false) (h2 : o.isWalk = false) : Kb rb Bs W (W.putObj l o') :=
  ⟨(grownBy_putObj' W l o').block rb (by have := (Array.getElem?_eq_some_iff.1 h).1; omega) (fun e => by cases e; omega), (grownBy_putObj' W l o').block Bs (by have := (Array.getElem?_eq_some_iff.1 h).1; omega) (fun e => by cases e; omega)⟩

theorem pts_drop_pair (us : List Nat) (k : Nat) (h : k + 1 < us.length) (hf : (Un.isF (us[k]?.getD 0) && Un.isS (us[k + 1]?.getD 0)) = true) :
    Un.pts (us.drop k) = (65536 + (us[k]?.getD 0 - 55296) * 1024 + us[k + 1]?.getD 0 - 56320) :: Un.pts (us.drop (k + 2)) := by
  rw [List.drop_eq_getElem_cons (by omega), List.drop_eq_getElem_cons h]
  rw [List.getElem?_eq_getElem (by omega), List.getElem?_eq_getElem h] at *
  simp only [Option.getD_some] at *
  rw [Un.pts, if_pos hf]
theorem pts_drop_one (us : List Nat) (k : Nat) (h : k < us.length) (hf : k + 1 < us.length → (Un.isF (us[k]?.getD 0) && Un.isS (us[k + 1]?.getD 0)) = false) :
    Un.pts (us.drop k) = us[k]?.getD 0 :: Un.pts (us.drop (k + 1)) := by
  rw [List.drop_eq_getElem_cons h]
  by_cases h1 : k + 1 < us.length
  · have hf' := hf h1
    rw [List.getElem?_eq_getElem h, List.getElem?_eq_getElem h1] at hf'
    rw [List.getElem?_eq_getElem h, List.drop_eq_getElem_cons h1]
    simp only [Option.getD_some] at *
    rw [Un.pts, if_neg (by rw [hf']; simp)]
  · rw [List.drop_eq_nil_of_le (by omega), List.getElem?_eq_getElem h]
    rfl

theorem getD_lt {us : List Nat} (hu : ∀ u ∈ us, u < 65536) (k : Nat) : us[k]?.getD 0 < 65536 := by
  by_cases h : k < us.length
  · rw [List.getElem?_eq_getElem h]; exact hu _ (List.getElem_mem h)
  · rw [List.getElem?_eq_none (by omega)]; simp

theorem isFirst_in (F : Fence) (n : Nat) (h30 : F.fn 30) (hro : F.round = none) (u : Nat) (w : World) :
    CallsIn F n Tryd.prog 30 #[.int .i32 (u : Int)] w fun e w' => e = .returned (.bool (Un.isF u)) ∧ w' = w := by
  unfold Un.isF
  refine callsIn_of_wp Tryd.func30 rfl h30 ?_ hro
  simp only [Tryd.ntmps30, List.size_toArray, List.length_cons, List.length_nil, Nat.reduceAdd, Nat.reduceSub, Array.replicate_succ, Array.replicate_zero, List.push_toArray, List.append_toArray, List.nil_append, List.cons_append]
  by_cases h1 : (55296 : Int) ≤ u
  · by_cases h2 : (u : Int) < 56320
    · gi_wp2
      go_ret
      exact ⟨by simp; omega, rfl⟩
    · gi_wp2
      go_ret
      exact ⟨by simp; omega, rfl⟩
  · gi_wp2
    go_ret
    exact ⟨by simp; omega, rfl⟩
theorem isSecond_in (F : Fence) (n : Nat) (h31 : F.fn 31) (hro : F.round = none) (u : Nat) (w : World) :
    CallsIn F n Tryd.prog 31 #[.int .i32 (u : Int)] w fun e w' => e = .returned (.bool (Un.isS u)) ∧ w' = w := by
  unfold Un.isS
  refine callsIn_of_wp Tryd.func31 rfl h31 ?_ hro
  simp only [Tryd.ntmps31, List.size_toArray, List.length_cons, List.length_nil, Nat.reduceAdd, Nat.reduceSub, Array.replicate_succ, Array.replicate_zero, List.push_toArray, List.append_toArray, List.nil_append, List.cons_append]
  by_cases h1 : (56320 : Int) ≤ u
  · by_cases h2 : (u : Int) < 57344
    · gi_wp2
      go_ret
      exact ⟨by simp; omega, rfl⟩
    · gi_wp2
      go_ret
      exact ⟨by simp; omega, rfl⟩
  · gi_wp2
    go_ret
    exact ⟨by simp; omega, rfl⟩

theorem paired_in (F : Fence) (n : Nat) (h46 : F.fn 32) (hro : F.round = none) (u v : Nat) (f1 : 55296 ≤ u) (f2 : u < 56320) (s1 : 56320 ≤ v) (s2 : v < 57344) (w : World) :
    CallsIn F n Tryd.prog 32 #[.int .i32 (u : Int), .int .i32 (v : Int)] w fun e w' => e = .returned (.int .i32 (65536 + ((u : Int) - 55296) * 1024 + (v : Int) - 56320)) ∧ w' = w := by
  refine callsIn_of_wp Tryd.func32 rfl h46 ?_ hro
  simp only [Tryd.ntmps32, List.size_toArray, List.length_cons, List.length_nil, Nat.reduceAdd, Nat.reduceSub, Array.replicate_succ, Array.replicate_zero, List.push_toArray, List.append_toArray, List.nil_append, List.cons_append]
  gi_wp2
  go_ret
  exact ⟨rfl, rfl⟩
set_option maxRecDepth 100000 in
set_option maxHeartbeats 2000000 in
theorem points1_in (F : Fence) (n : Nat) (hF : F.fn 29) (h30 : F.fn 30) (h31 : F.fn 31) (h46 : F.fn 32) (hro : F.round = none) (hn : 2 ≤ n) (l Bs b off cap : Nat) (us : List Nat) (hu : ∀ u ∈ us, u < 65536) (hlen : us.length ≤ 200000) (J Jx : List Pt → World → Prop)
    (hY : ∀ pre (x : Pt) W, J pre W → pre.length < us.length → YieldAt F (n - 1) Tryd.prog l #[.int .i32 ((x.val : Nat) : Int)] W fun e W' =>
      (e = .returned (.bool true) ∧ J (pre ++ [x]) W' ∧ Kb b Bs W W') ∨ (e = .returned (.bool false) ∧ Jx (pre ++ [x]) W'))
    (W : World) (hBox : W.cell? ⟨Bs, 0, none⟩ = some (.slice (some ⟨b, off, none⟩) us.length cap)) (hc : ∀ j, j < us.length → W.cell? ⟨b, off + j, none⟩ = some (.int .u16 ((us[j]?.getD 0 : Nat) : Int))) (h0 : J [] W) :
    CallsIn F n Tryd.prog 29 #[.func (.yield l) #[] #[], .pointer (some ⟨Bs, 0, none⟩)] W fun e W' => (∃ v, e = .returned v) ∧
      ((∃ ys, ys.map Subtype.val = Un.pts us ∧ J ys W') ∨ (∃ pre, True ∧ Jx pre W')) := by
  refine callsIn_of_wp Tryd.func29 rfl hF ?_ hro
  simp only [Tryd.ntmps29, List.size_toArray, List.length_cons, List.length_nil, Nat.reduceAdd, Nat.reduceSub, Array.replicate_succ, Array.replicate_zero, List.push_toArray, List.append_toArray, List.nil_append, List.cons_append]
  have hn1 : 1 ≤ n := by omega
  gi_wp2
  gi_loopw [3] (fun i wr => ∃ (k : Nat) (pre : List Pt), k ≤ us.length ∧ pre.length ≤ k ∧ i = .int .i64 k ∧ pre.map Subtype.val ++ Un.pts (us.drop k) = Un.pts us ∧ J pre wr ∧ Kb b Bs W wr)
    (fun i _ => us.length - (intOf i).toNat)
  case atStart => exact ⟨0, [], Nat.zero_le _, Nat.le_refl _, rfl, rfl, h0, Kb.refl _ _ _⟩
  case round =>
    obtain ⟨k, pre, hk, hpk, rfl, hpre, hJs, hnx⟩ := hrel
    have hbx : wr.cell? ⟨Bs, 0, none⟩ = some (.slice (some ⟨b, off, none⟩) us.length cap) := (World.cell?_of_block (a := ⟨Bs, 0, none⟩) hnx.2).trans hBox
    have hcx : ∀ j, j < us.length → wr.cell? ⟨b, off + j, none⟩ = some (.int .u16 ((us[j]?.getD 0 : Nat) : Int)) := fun j h => (World.cell?_of_block (a := ⟨b, off + j, none⟩) hnx.1).trans (hc j h)
    by_cases hlt : k < us.length
    · have hc0 := hcx k hlt
      have hu0 := getD_lt hu k
      have hu1 := getD_lt hu (k + 1)
      have HP : Hid (pre.map Subtype.val ++ Un.pts (us.drop k) = Un.pts us) := hpre
      clear hpre
      by_cases hpair : k + 1 < us.length ∧ (Un.isF (us[k]?.getD 0) && Un.isS (us[k + 1]?.getD 0)) = true
      · obtain ⟨h2, hfs⟩ := hpair
        have hc1 := hcx (k + 1) h2
        have hstep := pts_drop_pair us k h2 hfs
        have hfs' := hfs
        rw [Bool.and_eq_true] at hfs
        obtain ⟨bf, bs⟩ := hfs
        simp only [Un.isF, Un.isS, Bool.and_eq_true, decide_eq_true_eq] at hfs'
        clear hcx hc hu
        generalize us[k]?.getD 0 = u at *
        generalize us[k + 1]?.getD 0 = v at *
        obtain ⟨⟨f1, f2⟩, s1, s2⟩ := hfs'
        obtain ⟨x, HX⟩ : ∃ x : Pt, Hid (x.val = 65536 + (u - 55296) * 1024 + v - 56320) := ⟨⟨_, by omega⟩, rfl⟩
        obtain ⟨fn, tmps, assign, body, hy, hR⟩ := hY pre x wr hJs (by omega)
        have HS : Hid (Un.pts (us.drop k) = x.val :: Un.pts (us.drop (k + 2))) := hstep.trans (by rw [HX.out])
        clear hstep
        rw [show ((x.val : Nat) : Int) = 65536 + ((u : Int) - 55296) * 1024 + (v : Int) - 56320 by rw [HX.out]; omega] at hy
        clear hY
        gi_wp2_with (first
          | (gi_at_call 30; refine (isFirst_in F _ h30 hro u _).mono ?_; rintro e w' ⟨rfl, rfl⟩)
          | (gi_at_call 31; refine (isSecond_in F _ h31 hro v _).mono ?_; rintro e w' ⟨rfl, rfl⟩)
          | (gi_at_call 32; refine (paired_in F _ h46 hro u v f1 f2 s1 s2 _).mono ?_; rintro e w' ⟨rfl, rfl⟩))
        refine hR.mono ?_
        rintro e W3 (⟨rfl, hJ3, hk3⟩ | ⟨rfl, hJx3⟩)
        · gi_wp2
          go_roundw
          case rel => exact ⟨k + 2, pre ++ [x], by omega, by simp; omega, by go_num, by rw [← HP.out, HS.out]; simp, hJ3, hnx.trans hk3⟩
          case measure => simp [intOf]; omega
        · gi_wp2
          refine bodyPost_ret (results_none rfl _ _ _) rfl ?_
          exact ⟨⟨_, rfl⟩, .inr ⟨_, trivial, hJx3⟩⟩
      · have hstep := pts_drop_one us k hlt (fun h => by
          by_cases hh : (Un.isF (us[k]?.getD 0) && Un.isS (us[k + 1]?.getD 0)) = true
          · exact absurd ⟨h, hh⟩ hpair
          · simpa using hh)
        have h3 : ¬ (k + 1 < us.length) ∨ (k + 1 < us.length ∧ Un.isF (us[k]?.getD 0) = false) ∨ (k + 1 < us.length ∧ Un.isF (us[k]?.getD 0) = true ∧ Un.isS (us[k + 1]?.getD 0) = false) := by
          by_cases h : k + 1 < us.length
          · cases e1 : Un.isF (us[k]?.getD 0)
            · exact .inr (.inl ⟨h, rfl⟩)
            · refine .inr (.inr ⟨h, rfl, ?_⟩)
              cases e2 : Un.isS (us[k + 1]?.getD 0)
              · rfl
              · exact absurd ⟨h, by rw [e1, e2]; rfl⟩ hpair
          · exact .inl h
        have hc1 := hcx (k + 1)
        clear hcx hc hu hpair
        generalize us[k]?.getD 0 = u at *
        generalize us[k + 1]?.getD 0 = v at *
        obtain ⟨x, HX⟩ : ∃ x : Pt, Hid (x.val = u) := ⟨⟨_, by omega⟩, rfl⟩
        obtain ⟨fn, tmps, assign, body, hy, hR⟩ := hY pre x wr hJs (by omega)
        have HS : Hid (Un.pts (us.drop k) = x.val :: Un.pts (us.drop (k + 1))) := hstep.trans (by rw [HX.out])
        clear hstep
        rw [HX.out] at hy
        clear hY
        rcases h3 with h2 | ⟨h2, bf⟩ | ⟨h2, bf, bs⟩
        · clear hc1
          gi_wp2
          refine hR.mono ?_
          rintro e W3 (⟨rfl, hJ3, hk3⟩ | ⟨rfl, hJx3⟩)
          · gi_wp2
            go_roundw
            case rel => exact ⟨k + 1, pre ++ [x], by omega, by simp; omega, by go_num, by rw [← HP.out, HS.out]; simp, hJ3, hnx.trans hk3⟩
            case measure => simp [intOf]; omega
          · gi_wp2
            refine bodyPost_ret (results_none rfl _ _ _) rfl ?_
            exact ⟨⟨_, rfl⟩, .inr ⟨_, trivial, hJx3⟩⟩
        · replace hc1 := hc1 h2
          gi_wp2_with (gi_at_call 30; refine (isFirst_in F _ h30 hro u _).mono ?_; rintro e w' ⟨rfl, rfl⟩)
          refine hR.mono ?_
          rintro e W3 (⟨rfl, hJ3, hk3⟩ | ⟨rfl, hJx3⟩)
          · gi_wp2
            go_roundw
            case rel => exact ⟨k + 1, pre ++ [x], by omega, by simp; omega, by go_num, by rw [← HP.out, HS.out]; simp, hJ3, hnx.trans hk3⟩
            case measure => simp [intOf]; omega
          · gi_wp2
            refine bodyPost_ret (results_none rfl _ _ _) rfl ?_
            exact ⟨⟨_, rfl⟩, .inr ⟨_, trivial, hJx3⟩⟩
        · replace hc1 := hc1 h2
          gi_wp2_with (first
            | (gi_at_call 30; refine (isFirst_in F _ h30 hro u _).mono ?_; rintro e w' ⟨rfl, rfl⟩)
            | (gi_at_call 31; refine (isSecond_in F _ h31 hro v _).mono ?_; rintro e w' ⟨rfl, rfl⟩))
          refine hR.mono ?_
          rintro e W3 (⟨rfl, hJ3, hk3⟩ | ⟨rfl, hJx3⟩)
          · gi_wp2
            go_roundw
            case rel => exact ⟨k + 1, pre ++ [x], by omega, by simp; omega, by go_num, by rw [← HP.out, HS.out]; simp, hJ3, hnx.trans hk3⟩
            case measure => simp [intOf]; omega
          · gi_wp2
            refine bodyPost_ret (results_none rfl _ _ _) rfl ?_
            exact ⟨⟨_, rfl⟩, .inr ⟨_, trivial, hJx3⟩⟩
    · obtain rfl : k = us.length := by omega
      gi_wp2
      go_end0
      exact ⟨⟨_, rfl⟩, .inl ⟨pre, by simpa [Un.pts] using hpre, hJs⟩⟩

set_option maxRecDepth 100000 in
set_option maxHeartbeats 1000000 in
/-- .. at a slice without an element: no round. -/
theorem points1_nil_in (F : Fence) (n : Nat) (hF : F.fn 29) (hro : F.round = none) (l Bs : Nat) (J : List Pt → World → Prop) (W : World) (a0 : Option Addr) (c0 : Nat) (hBox : W.cell? ⟨Bs, 0, none⟩ = some (.slice a0 0 c0)) (h0 : J [] W) :
    CallsIn F n Tryd.prog 29 #[.func (.yield l) #[] #[], .pointer (some ⟨Bs, 0, none⟩)] W fun e W' => (∃ v, e = .returned v) ∧ J [] W' := by
  refine callsIn_of_wp Tryd.func29 rfl hF ?_ hro
  simp only [Tryd.ntmps29, List.size_toArray, List.length_cons, List.length_nil, Nat.reduceAdd, Nat.reduceSub, Array.replicate_succ, Array.replicate_zero, List.push_toArray, List.append_toArray, List.nil_append, List.cons_append]
  gi_wp2
  gi_loopw [3] (fun i wr => i = .int .i64 0 ∧ J [] wr ∧ wr.cell? ⟨Bs, 0, none⟩ = some (.slice a0 0 c0)) (fun _ _ => 0)
  case atStart => exact ⟨rfl, h0, hBox⟩
  case round =>
    obtain ⟨rfl, hJs, hb⟩ := hrel
    gi_wp2
    go_end0
    exact ⟨⟨_, rfl⟩, hJs⟩

set_option maxHeartbeats 1000000 in
/-- points: the units are boxed; the function value captures the box. -/
theorem points_in (F : Fence) (n : Nat) (hF : F.fn 18) (hro : F.round = none) (sv : Value) (hsv : ∃ a m c, sv = .slice a m c) (w : World) :
    CallsIn F n Tryd.prog 18 #[sv] w fun e w' => e = .returned (.func (.func 29) #[] #[.pointer (some ⟨w.heap.size, 0, none⟩)]) ∧ w' = w.alloc (.cells #[sv] 22) := by
  obtain ⟨a, m, c, rfl⟩ := hsv
  refine callsIn_of_wp Tryd.func18 rfl hF ?_ hro
  simp only [Tryd.ntmps18, List.size_toArray, List.length_cons, List.length_nil, Nat.reduceAdd, Nat.reduceSub, Array.replicate_succ, Array.replicate_zero, List.push_toArray, List.append_toArray, List.nil_append, List.cons_append]
  gi_wp2
  go_ret
  exact ⟨rfl, rfl⟩

theorem Row16.slice {n₀ : Nat} {W : World} {sv : Value} {us : List Nat} : Row16 n₀ W sv us → ∃ a c, sv = .slice a us.length c
  | .inl ⟨⟨a, c, e⟩, hu⟩ => ⟨a, c, by rw [e, hu]; rfl⟩
  | .inr ⟨b, off, cap, e, _, _⟩ => ⟨_, _, e⟩

/-- **What points hands back gives the code points, one behind the other.** -/
theorem points_stops (F : Fence) (n : Nat) (hF : F.fn 29) (h30 : F.fn 30) (h31 : F.fn 31) (h46 : F.fn 32) (hro : F.round = none) (hn : 2 ≤ n) (Bs n₀ : Nat) (sv : Value) (us : List Nat) (hu : ∀ u ∈ us, u < 65536) (hlen : us.length ≤ 200000) (w : World) (hBs : Bs < w.heap.size) (hn₀ : n₀ ≤ w.heap.size)
    (hc : w.cell? ⟨Bs, 0, none⟩ = some sv) (hL : Row16 n₀ w sv us) :
    ∃ rb, rb < w.heap.size ∧ (us = [] → rb = Bs) ∧ (us ≠ [] → rb < n₀ ∧ ∃ off cap, sv = .slice (some ⟨rb, off, none⟩) us.length cap) ∧
      SeqStopsK F n Tryd.prog 29 #[.pointer (some ⟨Bs, 0, none⟩)] (fun x : Pt => #[Value.int .i32 ((x.val : Nat) : Int)]) (Kb rb Bs) (fun ys => ys.map Subtype.val = Un.pts us) (fun _ => True) us.length w := by
  rcases hL with ⟨⟨a0, c0, rfl⟩, rfl⟩ | ⟨b, off, cap, rfl, hb, hcell⟩
  · refine ⟨Bs, hBs, fun _ => rfl, fun h => absurd rfl h, fun l J Jx W hW _ _ hY h0 => ?_⟩
    have hc' : W.cell? ⟨Bs, 0, none⟩ = some (.slice a0 0 c0) := (hW.cell (p := ⟨Bs, 0, none⟩) hBs).trans hc
    exact (points1_nil_in F n hF hro l Bs J W a0 c0 hc' h0).mono fun e W' ⟨h1, h2⟩ => ⟨h1, .inl ⟨[], rfl, h2⟩⟩
  · by_cases hne : us = []
    · subst hne
      refine ⟨Bs, hBs, fun _ => rfl, fun h => absurd rfl h, fun l J Jx W hW _ _ hY h0 => ?_⟩
      have hc' : W.cell? ⟨Bs, 0, none⟩ = some (.slice (some ⟨b, off, none⟩) 0 cap) := (hW.cell (p := ⟨Bs, 0, none⟩) hBs).trans hc
      exact (points1_nil_in F n hF hro l Bs J W _ cap hc' h0).mono fun e W' ⟨h1, h2⟩ => ⟨h1, .inl ⟨[], rfl, h2⟩⟩
    · refine ⟨b, by omega, fun h => absurd h hne, fun _ => ⟨hb, off, cap, rfl⟩, fun l J Jx W hW _ _ hY h0 => ?_⟩
      have hc' : W.cell? ⟨Bs, 0, none⟩ = some (.slice (some ⟨b, off, none⟩) us.length cap) := (hW.cell (p := ⟨Bs, 0, none⟩) hBs).trans hc
      exact points1_in F n hF h30 h31 h46 hro hn l Bs b off cap us hu hlen J Jx hY W hc' (fun j hj => (hW.cell (p := ⟨b, off + j, none⟩) (show b < w.heap.size by omega)).trans (hcell j hj)) h0
end Go.Proofs.YtmjnmnnfpcaogaaDoor
