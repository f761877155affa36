/- The walks of points and of the function that it hands back: the code points of units, one behind the other, for every loop body that keeps what lay below. -/
import Derived.Test.YtmicdbplkfdfnaaGreatDoorCFxWx
import Derived.RangeFuncBox
import Derived.RangeFuncLeaves
import Derived.RangeFuncCalls
import Derived.Shelf.Abstract
import Derived.OwnWalkIn
import Derived.TacticsInMore
import Derived.LoopNIn
import Derived.LoopIn
import Derived.RangeFuncNested
import Derived.Laws.IdiomStrings
set_option linter.unusedVariables false
namespace Go.Proofs.YtmicdbplkfdfnaaGreatDoor
open Go.RowKit Go.Shelf
attribute [local go_sem] Oper.semAt_some

/-- A code point, or a half. -/
abbrev Pt := { r : Nat // r ≤ 1114111 }

/-- The slice value sv holds the units us, in a block below n₀; or it has no element and there are none. -/
def Row16 (n₀ : Nat) (W : World) (sv : Value) (us : List Nat) : Prop :=
  ((∃ a c, sv = .slice a 0 c) ∧ us = []) ∨ ∃ b off cap, sv = .slice (some ⟨b, off, none⟩) us.length cap ∧ b < n₀ ∧ ∀ j, j < us.length → W.cell? ⟨b, off + j, none⟩ = some (.int .u16 ((us[j]?.getD 0 : Nat) : Int))
theorem Row16.below {n₀ : Nat} {A B : World} (h : Below n₀ A B) {sv : Value} {us : List Nat} : Row16 n₀ A sv us → Row16 n₀ B sv us
  | .inl e => .inl e
  | .inr ⟨b, off, cap, e, hb, hc⟩ => .inr ⟨b, off, cap, e, hb, fun j hj => (h.cell (p := ⟨b, off + j, none⟩) hb).trans (hc j hj)⟩

/-- What a round keeps: the block rb (the units' own) and the block Bs (the box that holds them). -/
def Kb (rb Bs : Nat) (W W' : World) : Prop := W'.heap[rb]? = W.heap[rb]? ∧ W'.heap[Bs]? = W.heap[Bs]?
theorem Kb.refl (rb Bs : Nat) (W : World) : Kb rb Bs W W := ⟨rfl, rfl⟩
theorem Kb.trans {rb Bs : Nat} {A B C : World} (h : Kb rb Bs A B) (k : Kb rb Bs B C) : Kb rb Bs A C := ⟨k.1.trans h.1, k.2.trans h.2⟩
theorem Kb.putObj {rb Bs : Nat} {w : World} (hn : rb < w.heap.size) (hB : Bs < w.heap.size) (W : World) (l : Nat) (o o' : Obj) (hl : w.heap.size ≤ l) (h : W.heap[l]? = some o) (h1 : o.isCells = false) (h2 : o.isWalk = false) : Kb rb Bs W (W.putObj l o') :=
  ⟨(grownBy_putObj' W l o').block rb (by have := (Array.getElem?_eq_some_iff.1 h).1; omega) (fun e => by cases e; omega), (grownBy_putObj' W l o').block Bs (by have := (Array.getElem?_eq_some_iff.1 h).1; omega) (fun e => by cases e; omega)⟩

theorem pts_drop_pair (us : List Nat) (k : Nat) (h : k + 1 < us.length) (hf : (Un.isF (us[k]?.getD 0) && Un.isS (us[k + 1]?.getD 0)) = true) :
    Un.pts (us.drop k) = (65536 + (us[k]?.getD 0 - 55296) * 1024 + us[k + 1]?.getD 0 - 56320) :: Un.pts (us.drop (k + 2)) := by
  rw [List.drop_eq_getElem_cons (by omega), List.drop_eq_getElem_cons h]
  rw [List.getElem?_eq_getElem (by omega), List.getElem?_eq_getElem h] at *
  simp only [Option.getD_some] at *
  rw [Un.pts, if_pos hf]
theorem pts_drop_one (us : List Nat) (k : Nat) (h : k < us.length) (hf : k + 1 < us.length → (Un.isF (us[k]?.getD 0) && Un.isS (us[k + 1]?.getD 0)) = false) :
    Un.pts (us.drop k) = us[k]?.getD 0 :: Un.pts (us.drop (k + 1)) := by
  rw [List.drop_eq_getElem_cons h]
  by_cases h1 : k + 1 < us.length
  · have hf' := hf h1
    rw [List.getElem?_eq_getElem h, List.getElem?_eq_getElem h1] at hf'
    rw [List.getElem?_eq_getElem h, List.drop_eq_getElem_cons h1]
    simp only [Option.getD_some] at *
    rw [Un.pts, if_neg (by rw [hf']; simp)]
  · rw [List.drop_eq_nil_of_le (by omega), List.getElem?_eq_getElem h]
    rfl

theorem getD_lt {us : List Nat} (hu : ∀ u ∈ us, u < 65536) (k : Nat) : us[k]?.getD 0 < 65536 := by
  by_cases h : k < us.length
  · rw [List.getElem?_eq_getElem h]; exact hu _ (List.getElem_mem h)
  · rw [List.getElem?_eq_none (by omega)]; simp

theorem isFirst_in (F : Fence) (n : Nat) (h30 : F.fn 144) (hro : F.round = none) (u : Nat) (w : World) :
    CallsIn F n Tryz.prog 144 #[.int .i32 (u : Int)] w fun e w' => e = .returned (.bool (Un.isF u)) ∧ w' = w := by
  unfold Un.isF
  refine callsIn_of_wp Tryz.func144 rfl h30 ?_ hro
  simp only [Tryz.ntmps144, List.size_toArray, List.length_cons, List.length_nil, Nat.reduceAdd, Nat.reduceSub, Array.replicate_succ, Array.replicate_zero, List.push_toArray, List.append_toArray, List.nil_append, List.cons_append]
  by_cases h1 : (55296 : Int) ≤ u
  · by_cases h2 : (u : Int) < 56320
    · gi_wp2
      go_ret
      exact ⟨by simp; omega, rfl⟩
    · gi_wp2
      go_ret
      exact ⟨by simp; omega, rfl⟩
  · gi_wp2
    go_ret
    exact ⟨by simp; omega, rfl⟩
theorem isSecond_in (F : Fence) (n : Nat) (h31 : F.fn 145) (hro : F.round = none) (u : Nat) (w : World) :
    CallsIn F n Tryz.prog 145 #[.int .i32 (u : Int)] w fun e w' => e = .returned (.bool (Un.isS u)) ∧ w' = w := by
  unfold Un.isS
  refine callsIn_of_wp Tryz.func145 rfl h31 ?_ hro
  simp only [Tryz.ntmps145, List.size_toArray, List.length_cons, List.length_nil, Nat.reduceAdd, Nat.reduceSub, Array.replicate_succ, Array.replicate_zero, List.push_toArray, List.append_toArray, List.nil_append, List.cons_append]
  by_cases h1 : (56320 : Int) ≤ u
  · by_cases h2 : (u : Int) < 57344
    · gi_wp2
      go_ret
      exact ⟨by simp; omega, rfl⟩
    · gi_wp2
      go_ret
      exact ⟨by simp; omega, rfl⟩
  · gi_wp2
    go_ret
    exact ⟨by simp; omega, rfl⟩

theorem paired_in (F : Fence) (n : Nat) (h46 : F.fn 146) (hro : F.round = none) (u v : Nat) (f1 : 55296 ≤ u) (f2 : u < 56320) (s1 : 56320 ≤ v) (s2 : v < 57344) (w : World) :
    CallsIn F n Tryz.prog 146 #[.int .i32 (u : Int), .int .i32 (v : Int)] w fun e w' => e = .returned (.int .i32 (65536 + ((u : Int) - 55296) * 1024 + (v : Int) - 56320)) ∧ w' = w := by
  refine callsIn_of_wp Tryz.func146 rfl h46 ?_ hro
  simp only [Tryz.ntmps146, List.size_toArray, List.length_cons, List.length_nil, Nat.reduceAdd, Nat.reduceSub, Array.replicate_succ, Array.replicate_zero, List.push_toArray, List.append_toArray, List.nil_append, List.cons_append]
  gi_wp2
  go_ret
  exact ⟨rfl, rfl⟩
set_option maxRecDepth 100000 in
set_option maxHeartbeats 2000000 in
theorem points1_in (F : Fence) (n : Nat) (hF : F.fn 143) (h30 : F.fn 144) (h31 : F.fn 145) (h46 : F.fn 146) (hro : F.round = none) (hn : 2 ≤ n) (l Bs b off cap : Nat) (us : List Nat) (hu : ∀ u ∈ us, u < 65536) (hlen : us.length ≤ 4000000) (J Jx : List Pt → World → Prop)
    (hY : ∀ pre (x : Pt) W, J pre W → pre.length < us.length → YieldAt F (n - 1) Tryz.prog l #[.int .i32 ((x.val : Nat) : Int)] W fun e W' =>
      (e = .returned (.bool true) ∧ J (pre ++ [x]) W' ∧ Kb b Bs W W') ∨ (e = .returned (.bool false) ∧ Jx (pre ++ [x]) W'))
    (W : World) (hBox : W.cell? ⟨Bs, 0, none⟩ = some (.slice (some ⟨b, off, none⟩) us.length cap)) (hc : ∀ j, j < us.length → W.cell? ⟨b, off + j, none⟩ = some (.int .u16 ((us[j]?.getD 0 : Nat) : Int))) (h0 : J [] W) :
    CallsIn F n Tryz.prog 143 #[.func (.yield l) #[] #[], .pointer (some ⟨Bs, 0, none⟩)] W fun e W' => (∃ v, e = .returned v) ∧
      ((∃ ys, ys.map Subtype.val = Un.pts us ∧ J ys W') ∨ (∃ pre, True ∧ Jx pre W')) := by
  refine callsIn_of_wp Tryz.func143 rfl hF ?_ hro
  simp only [Tryz.ntmps143, List.size_toArray, List.length_cons, List.length_nil, Nat.reduceAdd, Nat.reduceSub, Array.replicate_succ, Array.replicate_zero, List.push_toArray, List.append_toArray, List.nil_append, List.cons_append]
  have hn1 : 1 ≤ n := by omega
  gi_wp2
  gi_loopw [3] (fun i wr => ∃ (k : Nat) (pre : List Pt), k ≤ us.length ∧ pre.length ≤ k ∧ i = .int .i64 k ∧ pre.map Subtype.val ++ Un.pts (us.drop k) = Un.pts us ∧ J pre wr ∧ Kb b Bs W wr)
    (fun i _ => us.length - (intOf i).toNat)
  case atStart => exact ⟨0, [], Nat.zero_le _, Nat.le_refl _, rfl, rfl, h0, Kb.refl _ _ _⟩
  case round =>
    obtain ⟨k, pre, hk, hpk, rfl, hpre, hJs, hnx⟩ := hrel
    have hbx : wr.cell? ⟨Bs, 0, none⟩ = some (.slice (some ⟨b, off, none⟩) us.length cap) := (World.cell?_of_block (a := ⟨Bs, 0, none⟩) hnx.2).trans hBox
    have hcx : ∀ j, j < us.length → wr.cell? ⟨b, off + j, none⟩ = some (.int .u16 ((us[j]?.getD 0 : Nat) : Int)) := fun j h => (World.cell?_of_block (a := ⟨b, off + j, none⟩) hnx.1).trans (hc j h)
    by_cases hlt : k < us.length
    · have hc0 := hcx k hlt
      have hu0 := getD_lt hu k
      have hu1 := getD_lt hu (k + 1)
      have HP : Hid (pre.map Subtype.val ++ Un.pts (us.drop k) = Un.pts us) := hpre
      clear hpre
      by_cases hpair : k + 1 < us.length ∧ (Un.isF (us[k]?.getD 0) && Un.isS (us[k + 1]?.getD 0)) = true
      · obtain ⟨h2, hfs⟩ := hpair
        have hc1 := hcx (k + 1) h2
        have hstep := pts_drop_pair us k h2 hfs
        have hfs' := hfs
        rw [Bool.and_eq_true] at hfs
        obtain ⟨bf, bs⟩ := hfs
        simp only [Un.isF, Un.isS, Bool.and_eq_true, decide_eq_true_eq] at hfs'
        clear hcx hc hu
        generalize us[k]?.getD 0 = u at *
        generalize us[k + 1]?.getD 0 = v at *
        obtain ⟨⟨f1, f2⟩, s1, s2⟩ := hfs'
        obtain ⟨x, HX⟩ : ∃ x : Pt, Hid (x.val = 65536 + (u - 55296) * 1024 + v - 56320) := ⟨⟨_, by omega⟩, rfl⟩
        obtain ⟨fn, tmps, assign, body, hy, hR⟩ := hY pre x wr hJs (by omega)
        have HS : Hid (Un.pts (us.drop k) = x.val :: Un.pts (us.drop (k + 2))) := hstep.trans (by rw [HX.out])
        clear hstep
        rw [show ((x.val : Nat) : Int) = 65536 + ((u : Int) - 55296) * 1024 + (v : Int) - 56320 by rw [HX.out]; omega] at hy
        clear hY
        gi_wp2_with (first
          | (gi_at_call 144; refine (isFirst_in F _ h30 hro u _).mono ?_; rintro e w' ⟨rfl, rfl⟩)
          | (gi_at_call 145; refine (isSecond_in F _ h31 hro v _).mono ?_; rintro e w' ⟨rfl, rfl⟩)
          | (gi_at_call 146; refine (paired_in F _ h46 hro u v f1 f2 s1 s2 _).mono ?_; rintro e w' ⟨rfl, rfl⟩))
        refine hR.mono ?_
        rintro e W3 (⟨rfl, hJ3, hk3⟩ | ⟨rfl, hJx3⟩)
        · gi_wp2
          go_roundw
          case rel => exact ⟨k + 2, pre ++ [x], by omega, by simp; omega, by go_num, by rw [← HP.out, HS.out]; simp, hJ3, hnx.trans hk3⟩
          case measure => simp [intOf]; omega
        · gi_wp2
          refine bodyPost_ret (results_none rfl _ _ _) rfl ?_
          exact ⟨⟨_, rfl⟩, .inr ⟨_, trivial, hJx3⟩⟩
      · have hstep := pts_drop_one us k hlt (fun h => by
          by_cases hh : (Un.isF (us[k]?.getD 0) && Un.isS (us[k + 1]?.getD 0)) = true
          · exact absurd ⟨h, hh⟩ hpair
          · simpa using hh)
        have h3 : ¬ (k + 1 < us.length) ∨ (k + 1 < us.length ∧ Un.isF (us[k]?.getD 0) = false) ∨ (k + 1 < us.length ∧ Un.isF (us[k]?.getD 0) = true ∧ Un.isS (us[k + 1]?.getD 0) = false) := by
          by_cases h : k + 1 < us.length
          · cases e1 : Un.isF (us[k]?.getD 0)
            · exact .inr (.inl ⟨h, rfl⟩)
            · refine .inr (.inr ⟨h, rfl, ?_⟩)
              cases e2 : Un.isS (us[k + 1]?.getD 0)
              · rfl
              · exact absurd ⟨h, by rw [e1, e2]; rfl⟩ hpair
          · exact .inl h
        have hc1 := hcx (k + 1)
        clear hcx hc hu hpair
        generalize us[k]?.getD 0 = u at *
        generalize us[k + 1]?.getD 0 = v at *
        obtain ⟨x, HX⟩ : ∃ x : Pt, Hid (x.val = u) := ⟨⟨_, by omega⟩, rfl⟩
        obtain ⟨fn, tmps, assign, body, hy, hR⟩ := hY pre x wr hJs (by omega)
        have HS : Hid (Un.pts (us.drop k) = x.val :: Un.pts (us.drop (k + 1))) := hstep.trans (by rw [HX.out])
        clear hstep
        rw [HX.out] at hy
        clear hY
        rcases h3 with h2 | ⟨h2, bf⟩ | ⟨h2, bf, bs⟩
        · clear hc1
          gi_wp2
          refine hR.mono ?_
          rintro e W3 (⟨rfl, hJ3, hk3⟩ | ⟨rfl, hJx3⟩)
          · gi_wp2
            go_roundw
            case rel => exact ⟨k + 1, pre ++ [x], by omega, by simp; omega, by go_num, by rw [← HP.out, HS.out]; simp, hJ3, hnx.trans hk3⟩
            case measure => simp [intOf]; omega
          · gi_wp2
            refine bodyPost_ret (results_none rfl _ _ _) rfl ?_
            exact ⟨⟨_, rfl⟩, .inr ⟨_, trivial, hJx3⟩⟩
        · replace hc1 := hc1 h2
          gi_wp2_with (gi_at_call 144; refine (isFirst_in F _ h30 hro u _).mono ?_; rintro e w' ⟨rfl, rfl⟩)
          refine hR.mono ?_
          rintro e W3 (⟨rfl, hJ3, hk3⟩ | ⟨rfl, hJx3⟩)
          · gi_wp2
            go_roundw
            case rel => exact ⟨k + 1, pre ++ [x], by omega, by simp; omega, by go_num, by rw [← HP.out, HS.out]; simp, hJ3, hnx.trans hk3⟩
            case measure => simp [intOf]; omega
          · gi_wp2
            refine bodyPost_ret (results_none rfl _ _ _) rfl ?_
            exact ⟨⟨_, rfl⟩, .inr ⟨_, trivial, hJx3⟩⟩
        · replace hc1 := hc1 h2
          gi_wp2_with (first
            | (gi_at_call 144; refine (isFirst_in F _ h30 hro u _).mono ?_; rintro e w' ⟨rfl, rfl⟩)
            | (gi_at_call 145; refine (isSecond_in F _ h31 hro v _).mono ?_; rintro e w' ⟨rfl, rfl⟩))
          refine hR.mono ?_
          rintro e W3 (⟨rfl, hJ3, hk3⟩ | ⟨rfl, hJx3⟩)
          · gi_wp2
            go_roundw
            case rel => exact ⟨k + 1, pre ++ [x], by omega, by simp; omega, by go_num, by rw [← HP.out, HS.out]; simp, hJ3, hnx.trans hk3⟩
            case measure => simp [intOf]; omega
          · gi_wp2
            refine bodyPost_ret (results_none rfl _ _ _) rfl ?_
            exact ⟨⟨_, rfl⟩, .inr ⟨_, trivial, hJx3⟩⟩
    · obtain rfl : k = us.length := by omega
      gi_wp2
      go_end0
      exact ⟨⟨_, rfl⟩, .inl ⟨pre, by simpa [Un.pts] using hpre, hJs⟩⟩

set_option maxRecDepth 100000 in
set_option maxHeartbeats 1000000 in
/-- .. at a slice without an element: no round. -/
theorem points1_nil_in (F : Fence) (n : Nat) (hF : F.fn 143) (hro : F.round = none) (l Bs : Nat) (J : List Pt → World → Prop) (W : World) (a0 : Option Addr) (c0 : Nat) (hBox : W.cell? ⟨Bs, 0, none⟩ = some (.slice a0 0 c0)) (h0 : J [] W) :
    CallsIn F n Tryz.prog 143 #[.func (.yield l) #[] #[], .pointer (some ⟨Bs, 0, none⟩)] W fun e W' => (∃ v, e = .returned v) ∧ J [] W' := by
  refine callsIn_of_wp Tryz.func143 rfl hF ?_ hro
  simp only [Tryz.ntmps143, List.size_toArray, List.length_cons, List.length_nil, Nat.reduceAdd, Nat.reduceSub, Array.replicate_succ, Array.replicate_zero, List.push_toArray, List.append_toArray, List.nil_append, List.cons_append]
  gi_wp2
  gi_loopw [3] (fun i wr => i = .int .i64 0 ∧ J [] wr ∧ wr.cell? ⟨Bs, 0, none⟩ = some (.slice a0 0 c0)) (fun _ _ => 0)
  case atStart => exact ⟨rfl, h0, hBox⟩
  case round =>
    obtain ⟨rfl, hJs, hb⟩ := hrel
    gi_wp2
    go_end0
    exact ⟨⟨_, rfl⟩, hJs⟩

set_option maxHeartbeats 1000000 in
/-- points: the units are boxed; the function value captures the box. -/
theorem points_in (F : Fence) (n : Nat) (hF : F.fn 107) (hro : F.round = none) (sv : Value) (hsv : ∃ a m c, sv = .slice a m c) (w : World) :
    CallsIn F n Tryz.prog 107 #[sv] w fun e w' => e = .returned (.func (.func 143) #[] #[.pointer (some ⟨w.heap.size, 0, none⟩)]) ∧ w' = w.alloc (.cells #[sv] 83) := by
  obtain ⟨a, m, c, rfl⟩ := hsv
  refine callsIn_of_wp Tryz.func107 rfl hF ?_ hro
  simp only [Tryz.ntmps107, List.size_toArray, List.length_cons, List.length_nil, Nat.reduceAdd, Nat.reduceSub, Array.replicate_succ, Array.replicate_zero, List.push_toArray, List.append_toArray, List.nil_append, List.cons_append]
  gi_wp2
  go_ret
  exact ⟨rfl, rfl⟩

theorem Row16.slice {n₀ : Nat} {W : World} {sv : Value} {us : List Nat} : Row16 n₀ W sv us → ∃ a c, sv = .slice a us.length c
  | .inl ⟨⟨a, c, e⟩, hu⟩ => ⟨a, c, by rw [e, hu]; rfl⟩
  | .inr ⟨b, off, cap, e, _, _⟩ => ⟨_, _, e⟩

/-- **What points hands back gives the code points, one behind the other.** -/
theorem points_stops (F : Fence) (n : Nat) (hF : F.fn 143) (h30 : F.fn 144) (h31 : F.fn 145) (h46 : F.fn 146) (hro : F.round = none) (hn : 2 ≤ n) (Bs n₀ : Nat) (sv : Value) (us : List Nat) (hu : ∀ u ∈ us, u < 65536) (hlen : us.length ≤ 4000000) (w : World) (hBs : Bs < w.heap.size) (hn₀ : n₀ ≤ w.heap.size)
    (hc : w.cell? ⟨Bs, 0, none⟩ = some sv) (hL : Row16 n₀ w sv us) :
    ∃ rb, rb < w.heap.size ∧ (us = [] → rb = Bs) ∧ (us ≠ [] → rb < n₀ ∧ ∃ off cap, sv = .slice (some ⟨rb, off, none⟩) us.length cap) ∧
      SeqStopsK F n Tryz.prog 143 #[.pointer (some ⟨Bs, 0, none⟩)] (fun x : Pt => #[Value.int .i32 ((x.val : Nat) : Int)]) (Kb rb Bs) (fun ys => ys.map Subtype.val = Un.pts us) (fun _ => True) us.length w := by
  rcases hL with ⟨⟨a0, c0, rfl⟩, rfl⟩ | ⟨b, off, cap, rfl, hb, hcell⟩
  · refine ⟨Bs, hBs, fun _ => rfl, fun h => absurd rfl h, fun l J Jx W hW _ _ hY h0 => ?_⟩
    have hc' : W.cell? ⟨Bs, 0, none⟩ = some (.slice a0 0 c0) := (hW.cell (p := ⟨Bs, 0, none⟩) hBs).trans hc
    exact (points1_nil_in F n hF hro l Bs J W a0 c0 hc' h0).mono fun e W' ⟨h1, h2⟩ => ⟨h1, .inl ⟨[], rfl, h2⟩⟩
  · by_cases hne : us = []
    · subst hne
      refine ⟨Bs, hBs, fun _ => rfl, fun h => absurd rfl h, fun l J Jx W hW _ _ hY h0 => ?_⟩
      have hc' : W.cell? ⟨Bs, 0, none⟩ = some (.slice (some ⟨b, off, none⟩) 0 cap) := (hW.cell (p := ⟨Bs, 0, none⟩) hBs).trans hc
      exact (points1_nil_in F n hF hro l Bs J W _ cap hc' h0).mono fun e W' ⟨h1, h2⟩ => ⟨h1, .inl ⟨[], rfl, h2⟩⟩
    · refine ⟨b, by omega, fun h => absurd h hne, fun _ => ⟨hb, off, cap, rfl⟩, fun l J Jx W hW _ _ hY h0 => ?_⟩
      have hc' : W.cell? ⟨Bs, 0, none⟩ = some (.slice (some ⟨b, off, none⟩) us.length cap) := (hW.cell (p := ⟨Bs, 0, none⟩) hBs).trans hc
      exact points1_in F n hF h30 h31 h46 hro hn l Bs b off cap us hu hlen J Jx hY W hc' (fun j hj => (hW.cell (p := ⟨b, off + j, none⟩) (show b < w.heap.size by omega)).trans (hcell j hj)) h0
end Go.Proofs.YtmicdbplkfdfnaaGreatDoor
set_option linter.unusedVariables false
namespace Go.Proofs.YtmicdbplkfdfnaaGreatDoor
open Go.RowKit Go.Shelf
attribute [local go_sem] Oper.semAt_some

/-- The bytes of units. -/
def txtB (us : List Nat) : List Nat := (Un.pts us).flatMap Un.encR
/-- The text of units. -/
def txt (us : List Nat) : ByteArray := ⟨((txtB us).map UInt8.ofNat).toArray⟩
/-- The bytes of the code points that have come. -/
def preB (pre : List Pt) : List Nat := (pre.map Subtype.val).flatMap Un.encR
theorem preB_snoc (pre : List Pt) (x : Pt) : preB (pre ++ [x]) = preB pre ++ Un.encR x.val := by simp [preB]
theorem preB_len (pre : List Pt) : (preB pre).length ≤ 4 * pre.length := by
  induction pre with
  | nil => simp [preB]
  | cons x t ih =>
    have h := (Un.encR_len x.val).2
    have e : preB (x :: t) = Un.encR x.val ++ preB t := by simp [preB]
    rw [e, List.length_append, List.length_cons]
    omega
theorem preB_lt (pre : List Pt) : ∀ b ∈ preB pre, b < 256 := by
  intro b hb
  obtain ⟨r, hr, hb⟩ := List.mem_flatMap.1 hb
  obtain ⟨x, _, rfl⟩ := List.mem_map.1 hr
  exact Un.encR_lt x.val x.2 b hb

theorem ownsRow_pos {W : World} {base : Nat} {e : TypeId} {size : Nat} {v : Value} {k : Nat} {xs : List Value} (hk : 0 < k) (h : W.ownsRow base e size v k xs) : ∃ g cap, v = .slice (some ⟨g, 0, none⟩) k cap := by
  rcases h.2 with ⟨_, h0⟩ | ⟨g, cap, _, rfl, _⟩
  · omega
  · exact ⟨g, cap, rfl⟩

/-- string(b) of a row of bytes. -/
theorem conv_row {W : World} {base : Nat} {g cap : Nat} {bs : List Nat} (hb : ∀ b ∈ bs, b < 256) (h : W.ownsRow base 5 1 (.slice (some ⟨g, 0, none⟩) bs.length cap) bs.length (bs.map bv)) :
    (convert 133 9 (.slice (some ⟨g, 0, none⟩) bs.length cap)).run Tryz.prog W = .ok (.string ⟨(bs.map UInt8.ofNat).toArray⟩) W := by
  have hc := h.cells (g := g) rfl
  have := run_convert_bytes_back (P := Tryz.prog) W 133 9 5 ⟨g, 0, none⟩ cap (bs.map UInt8.ofNat) Tryz.underlying133 Tryz.underlying5 Tryz.underlying9 (fun j hj => by
    rw [List.length_map] at hj
    have h1 := hc j (bv bs[j]) (by simp [hj])
    rw [h1]
    have h2 : bs[j] < 256 := hb _ (List.getElem_mem hj)
    simp [bv, List.getElem_map, UInt8.toNat_ofNat', Nat.mod_eq_of_lt h2])
  simpa using this

set_option maxRecDepth 100000 in
set_option maxHeartbeats 2000000 in
theorem text_any (sv : Value) (us : List Nat) (hu : ∀ u ∈ us, u < 65536) (hlen : us.length ≤ 4000000) (w : World) (hL : Row16 w.heap.size w sv us) :
    Calls Tryz.prog 80 #[sv] w fun e W' => e = .returned (.string (txt us)) ∧ Below w.heap.size w W' := by
  obtain ⟨sa, sc, rfl⟩ := hL.slice
  refine (callsIn_wide (n := 5)).1 ?_
  obtain ⟨i0, hi, hz0, hz1, hz2⟩ := info_parts info5
  refine callsIn_of_wp_marks Tryz.func80 rfl trivial ?_ rfl
  simp only [Tryz.ntmps80, List.size_toArray, List.length_cons, List.length_nil, Nat.reduceAdd, Nat.reduceSub, Array.replicate_succ, Array.replicate_zero, List.push_toArray, List.append_toArray, List.nil_append, List.cons_append]
  gi_wp2_with (first
    | (refine wpListIn_make_own _ rfl _ _ 133 rfl w.heap.size 5 i0 (.int .u8 0) 1 Tryz.underlying133 hi hz0 hz1 .i64 .i64 _ us.length rfl rfl rfl (by rw [hz2]; omega) (by unfold maxLen; omega) (Nat.le_refl _) ?_; intro w1 hown0 hg0)
    | (refine ⟨trivial, ?_⟩; gi_at_call 107; refine (points_in Fence.wide _ trivial rfl _ ⟨_, _, _, rfl⟩ _).mono ?_; rintro e w' ⟨rfl, rfl⟩))
  have hs0 := hg0.size
  have hrow1 := (hown0.alloc (.cells #[.slice (some ⟨w.heap.size, 0, none⟩) 0 us.length] 133)).alloc (.cells #[.slice sa us.length sc] 83)
  have bO := (Boxed.new w1 133 (.slice (some ⟨w.heap.size, 0, none⟩) 0 us.length)).alloc (.cells #[.slice sa us.length sc] 83)
  have bN := Boxed.new (w1.alloc (.cells #[.slice (some ⟨w.heap.size, 0, none⟩) 0 us.length] 133)) 83 (.slice sa us.length sc)
  rw [World.size_alloc] at bN
  have hb1 : Below w.heap.size w w1 := (Below.refl _ w).grown hg0 (Nat.le_refl _) (fun k e => by cases e)
  have hB0 : Below w.heap.size w ((w1.alloc (.cells #[.slice (some ⟨w.heap.size, 0, none⟩) 0 us.length] 133)).alloc (.cells #[.slice sa us.length sc] 83)) := (hb1.alloc hs0 _).alloc (by simp; omega) _
  obtain ⟨rb, hrb, hrb0, hrb1, hstops⟩ := points_stops Fence.wide 4 trivial trivial trivial trivial rfl (by omega) (w1.heap.size + 1) w.heap.size (.slice sa us.length sc) us hu hlen _ (by simp) (by simp; omega) bN.cell (hL.below hB0)
  refine wpIn_rangeFunc_ownG rfl (by omega) (gf := 143) (lb := #[.pointer (some ⟨w1.heap.size + 1, 0, none⟩)]) rfl trivial (enters_of Tryz.func143 (by kernel_rfl) rfl)
    hstops Kb.trans (Kb.putObj hrb (by simp)) (Below.refl _ _) (fun _ => rfl)
    (fun pre W => ((∃ v, Boxed W w1.heap.size 133 v ∧ W.ownsRow w.heap.size 5 1 v (preB pre).length ((preB pre).map bv) ∧ (∃ g cap, v = .slice (some ⟨g, 0, none⟩) (preB pre).length cap)) ∧ Boxed W (w1.heap.size + 1) 83 (.slice sa us.length sc)) ∧ Below w.heap.size w W)
    (fun _ _ _ => False)
    (OwnFrom.and (OwnFrom.and (Own.from (holdsRow_own w.heap.size w1.heap.size 133 5 1 (fun pre => (preB pre).length) (fun pre => (preB pre).map bv) (fun pre v => ∃ g cap, v = .slice (some ⟨g, 0, none⟩) (preB pre).length cap)) _) (Own.from (boxed_own _ _ (fun _ => _)) _)) (ownFrom_below (Nat.le_refl _) (by simp; omega)))
    (fun _ _ _ _ _ hs _ _ => hs)
    ⟨⟨⟨_, bO, hrow1, ⟨_, _, rfl⟩⟩, bN⟩, hB0⟩
    (fun x => { tmps := #[.slice sa us.length sc, undef, .string { data := #[] }, .pointer (some ⟨w1.heap.size, 0, none⟩), .int .i32 ((x.val : Nat) : Int), .slice sa us.length sc, .int .i64 (us.length : Int), .slice (some ⟨w.heap.size, 0, none⟩) 0 us.length, .slice sa us.length sc, .func (.func 143) #[] #[.pointer (some ⟨w1.heap.size + 1, 0, none⟩)], .int .i32 ((x.val : Nat) : Int), undef, undef, undef, undef, undef], defers := [] }) ?assign ?body ?done ?stop
  case assign =>
    intro l x W K hK
    gi_wp2
    exact hK
  case body =>
    rintro l pre x W ⟨⟨⟨v, hv, hrow, g0, cap0, rfl⟩, hN⟩, hB⟩ hlt
    have hc := hv.cell
    have hpl := preB_len pre
    have hel := Un.encR_len x.val
    have hap := appendText_any w.heap.size (.slice (some ⟨g0, 0, none⟩) (preB pre).length cap0) (preB pre).length ((preB pre).map bv) x.val x.2 W hrow (by omega) hB.size
    gi_wp2_with (refine ⟨trivial, ?_⟩; gi_at_call 108; refine (CallsIn.inRound l (callsIn_wide.2 hap)).mono ?_; rintro e w2 ⟨v', rfl, hown', o2, hgrow⟩; obtain ⟨g', cap', rfl⟩ := ownsRow_pos (by omega) hown'; obtain ⟨hv1, hv2, hr2, hk2, hb2⟩ := hv.appended (by decide) hrow hB.size (by omega) hown' hgrow; have hc1 := hv1.cell; have hf1 := hv1.frozen)
    have hN2 : Boxed w2 (w1.heap.size + 1) 83 (.slice sa us.length sc) := (hN.alloc o2).kept hgrow (hN.not_row (by decide) hrow)
    have hN3 := hN2.other (B' := w1.heap.size) (by omega) (.slice (some ⟨g', 0, none⟩) ((preB pre).length + (Un.encR x.val).length) cap')
    have e1 : (preB (pre ++ [x])).length = (preB pre).length + (Un.encR x.val).length := by rw [preB_snoc, List.length_append]
    have e2 : (preB (pre ++ [x])).map bv = (preB pre).map bv ++ (Un.encR x.val).map bv := by rw [preB_snoc, List.map_append]
    exact ⟨hk2.from _, ⟨hb2.block rb (hrb1 (fun e => by rw [e] at hlt; simp at hlt)).1, hN3.trans hN.symm⟩, ⟨⟨_, hv2, by rw [e1, e2]; exact hr2, g', cap', by rw [e1]⟩, hN3⟩, hB.trans hb2⟩
  case done =>
    rintro D ys W hD hys ⟨⟨⟨v, hv, hrow, g0, cap0, rfl⟩, hN⟩, hB⟩ hK
    have hc := hv.cell
    have hcv := conv_row (preB_lt ys) hrow
    have ht : (⟨((preB ys).map UInt8.ofNat).toArray⟩ : ByteArray) = txt us := by unfold txt txtB preB; rw [hys]
    rw [ht] at hcv
    clear ht hys
    gi_wp2
    refine ⟨by simp, .inl ⟨_, _, rfl, run_takeDeferred hK, ?_⟩⟩
    exact ⟨_, results_tmp rfl _ _ _, rfl, hB.trans (belowK_b (w := w) (Nat.le_refl _) W D _ _ (by simp at hD; omega) hK rfl rfl)⟩
  case stop =>
    rintro D c pre W _ _ h _
    exact h.elim
end Go.Proofs.YtmicdbplkfdfnaaGreatDoor
namespace Go.Proofs.YtmicdbplkfdfnaaGreatDoor
namespace Un

/-- What stands at the front of bytes: the code point (or half), and how many bytes it takes. -/
def ptL (bs : List Nat) : Nat × Nat := pointN bs.length (bs[0]?.getD 0) (bs[1]?.getD 0) (bs[2]?.getD 0) (bs[3]?.getD 0)

/-- The units of bytes. -/
def unitsL : Nat → List Nat → List Nat
  | 0, _ => []
  | f + 1, bs => if bs = [] then [] else unR (ptL bs).1 ++ unitsL f (bs.drop (ptL bs).2)

theorem decodeN_bounds (n b0 b1 b2 b3 : Nat) (hn : 1 ≤ n) (h0 : b0 < 256) : 1 ≤ (Lib.decodeN n b0 b1 b2 b3).2 ∧ (Lib.decodeN n b0 b1 b2 b3).2 ≤ n ∧ (Lib.decodeN n b0 b1 b2 b3).1 ≤ 1114111 := by
  unfold Lib.decodeN
  repeat' split
  all_goals simp only []
  all_goals omega

theorem pointN_bounds (n b0 b1 b2 b3 : Nat) (hn : 1 ≤ n) (h0 : b0 < 256) : 1 ≤ (pointN n b0 b1 b2 b3).2 ∧ (pointN n b0 b1 b2 b3).2 ≤ n ∧ (pointN n b0 b1 b2 b3).1 ≤ 1114111 := by
  unfold pointN
  split
  · simp only []; omega
  · exact decodeN_bounds n b0 b1 b2 b3 hn h0

theorem getD_byte {bs : List Nat} (hb : ∀ b ∈ bs, b < 256) (k : Nat) : bs[k]?.getD 0 < 256 := by
  by_cases h : k < bs.length
  · rw [List.getElem?_eq_getElem h]; exact hb _ (List.getElem_mem h)
  · rw [List.getElem?_eq_none (by omega)]; simp

theorem ptL_bounds (bs : List Nat) (h : bs ≠ []) (hb : ∀ b ∈ bs, b < 256) : 1 ≤ (ptL bs).2 ∧ (ptL bs).2 ≤ bs.length ∧ (ptL bs).1 ≤ 1114111 := by
  have hl : 1 ≤ bs.length := by
    cases bs with
    | nil => exact absurd rfl h
    | cons _ _ => simp
  exact pointN_bounds _ _ _ _ _ hl (getD_byte hb 0)

theorem unR_len (r : Nat) : 1 ≤ (unR r).length ∧ (unR r).length ≤ 2 := by
  unfold unR; split <;> simp
theorem unR_lt (r : Nat) (h : r ≤ 1114111) : ∀ u ∈ unR r, u < 65536 := by
  unfold unR
  intro u hu
  split at hu <;> simp at hu <;> omega

theorem unitsL_lt : ∀ (f : Nat) (bs : List Nat), (∀ b ∈ bs, b < 256) → ∀ u ∈ unitsL f bs, u < 65536
  | 0, bs, _ => by simp [unitsL]
  | f + 1, bs, hb => by
    unfold unitsL
    split
    · simp
    · rename_i h
      intro u hu
      rcases List.mem_append.1 hu with hu | hu
      · exact unR_lt _ (ptL_bounds bs h hb).2.2 u hu
      · exact unitsL_lt f _ (fun b hb' => hb b (List.mem_of_mem_drop hb')) u hu

theorem unitsL_nil (f : Nat) : unitsL f [] = [] := by cases f <;> simp [unitsL]

/-- More fuel than bytes turns nothing. -/
theorem unitsL_step (f : Nat) (bs : List Nat) (h : bs ≠ []) (hf : bs.length ≤ f) : unitsL f bs = unR (ptL bs).1 ++ unitsL (f - 1) (bs.drop (ptL bs).2) := by
  cases f with
  | zero => cases bs with
    | nil => exact absurd rfl h
    | cons _ _ => simp at hf
  | succ f => simp [unitsL, h]

theorem ptL_encR (r : Nat) (hr : r ≤ 1114111) (rest : List Nat) : ptL (encR r ++ rest) = (r, (encR r).length) := by
  have hl := encR_len r
  have hg : ∀ k, k < (encR r).length → (encR r)[k]?.getD 0 = (encR r ++ rest)[k]?.getD 0 := fun k hk => by rw [List.getElem?_append_left hk]
  exact pointN_encR r _ _ _ _ _ hr (by simp) (hg 0 (by omega)) (hg 1) (hg 2) (hg 3)

/-- The units of the bytes of code points. -/
theorem unitsL_flat : ∀ (rs : List Nat) (f : Nat), (∀ r ∈ rs, r ≤ 1114111) → (rs.flatMap encR).length ≤ f → unitsL f (rs.flatMap encR) = rs.flatMap unR
  | [], f, _, _ => by simp [unitsL_nil]
  | r :: rs, f, hr, hf => by
    have hl := encR_len r
    rw [List.flatMap_cons] at hf
    rw [List.length_append] at hf
    rw [List.flatMap_cons, List.flatMap_cons]
    rw [unitsL_step f (encR r ++ rs.flatMap encR) (by intro e; have := congrArg List.length e; simp at this; have h2 := this.1; rw [h2] at hl; simp at hl) (by rw [List.length_append]; omega)]
    rw [ptL_encR r (hr r (by simp))]
    simp only []
    rw [List.drop_left, unitsL_flat rs (f - 1) (fun x hx => hr x (by simp [hx])) (by omega)]

/-- **The units of the text of units are the units.** -/
theorem unitsL_back (us : List Nat) (hu : ∀ u ∈ us, u < 65536) (f : Nat) (hf : ((pts us).flatMap encR).length ≤ f) : unitsL f ((pts us).flatMap encR) = us := by
  rw [unitsL_flat _ f (pts_lt us hu) hf, pts_unR us hu]

end Un
end Go.Proofs.YtmicdbplkfdfnaaGreatDoor
