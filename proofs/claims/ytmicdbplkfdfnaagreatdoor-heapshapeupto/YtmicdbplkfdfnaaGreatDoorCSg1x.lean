/- The library's sort at uint32: Less; rows of such numbers; insertionSort. -/
import Derived.Test.YtmicdbplkfdfnaaGreatDoorProg
import Derived.Sort.WalkA
import Derived.WalkKit
import Derived.Deep.QuietTactic
import Derived.BigQuiet
import Derived.CellFam
import Derived.Sort.Walk13a
import Derived.Sort.WalkB3
import Derived.Sort.WalkB12
import Derived.Deep.DeepCutAuto
import Derived.Deep.CutBlock
import Derived.Sort.WalkA6
import Derived.Sort.Walk7
set_option linter.unusedVariables false
namespace Go.Proofs.YtmicdbplkfdfnaaGreatDoor
open Go.RowKit Go.Sort

abbrev U32 : Int → Value := Value.int .u32
theorem isNaN32 (x : Int) (w : World) : Calls Tryz.prog 157 #[.int .u32 x] w fun e w' => e = .returned (.bool false) ∧ w' = w := by
  go_enter Tryz.func157, Tryz.ntmps157
  go_wp2
  go_ret
  exact ⟨by simp, rfl⟩
theorem less32 (x y : Int) (w : World) : Calls Tryz.prog 133 #[.int .u32 x, .int .u32 y] w fun e w' => e = .returned (.bool (ltInt x y)) ∧ w' = w := by
  have c := isNaN32
  go_enter Tryz.func133, Tryz.ntmps133
  go_wp2_with (first | (go_at_call 157; refine (c _ _).mono ?_; rintro e w1 ⟨rfl, rfl⟩))
  go_ret
  exact ⟨rfl, rfl⟩
/-- What a world that differs in the row alone has there. -/
theorem row32 {w wr : World} {blk off m : Nat} {d dj : Array Int} (hH : Holds U32 w blk off d) (hs : dj.size = d.size) (hw : wr = putRow U32 (Sort.ahead w m) blk off dj) :
    (∀ t, t < d.size → wr.cell? ⟨blk, off + t, none⟩ = some (.int .u32 dj[t]!)) ∧ (∀ t, t < d.size → wr.frozen? ⟨blk, off + t, none⟩ = false) := by
  refine ⟨fun t ht => ?_, fun t ht => ?_⟩
  · rw [hw]; exact cell?_putRow _ _ _ _ d dj (holds_ahead _ _ _ _ _ _ hH) hs t (by omega)
  · rw [hw, frozen?_putRow]; exact ((holds_ahead _ _ m _ _ _ hH) t ht).2
set_option maxRecDepth 100000 in
set_option maxHeartbeats 2000000 in
theorem ins32 (blk off cap a b : Nat) (d : Array Int) (w : World) (hH : Holds U32 w blk off d) (hab : a ≤ b) (hb : b ≤ d.size) (hsz : d.size ≤ 1000000) :
    Calls Tryz.prog 127 #[.slice (some ⟨blk, off, none⟩) d.size cap, .int .i64 a, .int .i64 b] w fun e w' => e = .returned (.tuple #[]) ∧ ∃ n, w' = putRow U32 (Sort.ahead w n) blk off (insertionSort ltInt d a b) := by
  go_enter Tryz.func127, Tryz.ntmps127
  go_wp2
  go_loopw [6] (fun vi wr => ∃ (i n : Nat) (dk : Array Int), vi = .int .i64 i ∧ a < i ∧ i ≤ b + 1 ∧ dk.size = d.size ∧ wr = putRow U32 (Sort.ahead w n) blk off dk ∧ insOuter ltInt a b i dk = insertionSort ltInt d a b) (fun vi _ => b + 1 - (intOf vi).toNat)
  case atStart => exact ⟨a + 1, 0, d, by go_num, by omega, by omega, rfl, (putRow_self _ _ _ _ _ hH).symm, rfl⟩
  case round =>
    obtain ⟨i, n, dk, rfl, h1, h2, h3, hwr, hO⟩ := hrel
    have HO : Hid (insOuter ltInt a b i dk = insertionSort ltInt d a b) := hO
    clear hO
    by_cases hlt : i < b
    · go_wp2
      go_loopw [7] (fun vj wr2 => ∃ (j m : Nat) (dj : Array Int), vj = .int .i64 j ∧ a ≤ j ∧ j ≤ i ∧ dj.size = d.size ∧ wr2 = putRow U32 (Sort.ahead w m) blk off dj ∧ insInner ltInt a j dj = insInner ltInt a i dk) (fun vj _ => (intOf vj).toNat)
      case atStart => exact ⟨i, n, dk, rfl, by omega, Nat.le_refl _, h3, rfl, rfl⟩
      case round =>
        obtain ⟨j, m, dj, rfl, g1, g2, g3, hw2, hI⟩ := hrel
        obtain ⟨hc, hf⟩ := row32 hH g3 hw2
        obtain ⟨G, hG⟩ : ∃ G : Nat → Int, ∀ t, G t = dj[t]! := ⟨fun t => dj[t]!, fun _ => rfl⟩
        have hcw : ∀ t, t < d.size → wr.cell? ⟨blk, off + t, none⟩ = some (.int .u32 (G t)) := fun t ht => by rw [hG]; exact hc t ht
        have HW : Hid (wr = putRow U32 (Sort.ahead w m) blk off dj) := hw2
        have HG : Hid (∀ t, G t = dj[t]!) := hG
        have HI : Hid (insInner ltInt a j dj = insInner ltInt a i dk) := hI
        clear hw2 hG hI hc
        have leave : Hid ((j ≤ a ∨ ltInt dj[j]! dj[j - 1]! = false) → insOuter ltInt a b (i + 1) dj = insertionSort ltInt d a b) := by
          show _ → _
          intro hs
          rw [← HO.out, insOuter_go _ _ _ _ _ hlt, ← HI.out, insInner_stop _ _ _ _ hs]
        have HH := (show Hid (Holds U32 w blk off d) from hH)
        clear hH
        go_wp2
        by_cases hja : a < j
        · go_quiet (first | (go_at_call 133; refine Calls.quiet_of_same (less32 _ _ _)))
          go_wp2
          · have hl : ltInt (G j) (G (j - 1)) = true := by assumption
            go_region
            all_goals go_wp2
            go_roundw
            case rel =>
              refine ⟨j - 1, m + (nq + 1), swp dj j (j - 1), by congr 1; omega, by omega, by omega, by rw [size_swp]; exact g3, ?_, ?_⟩
              · rw [HW.out, HG.out, HG.out]
                exact swap_worldA _ w m (nq + 1) blk off dj j (j - 1) (by omega) (by omega)
              · rw [← HI.out, insInner_go ltInt a j dj hja (by rw [← HG.out, ← HG.out]; exact hl)]
            case measure => simp [intOf]; omega
          · have hl : ltInt (G j) (G (j - 1)) = false := by assumption
            go_roundw
            case rel => exact ⟨i + 1, m + nq, dj, by go_num, by omega, by omega, g3, by rw [HW.out]; exact putRow_drewN _ _ _ _ _ _ _, leave.out (Or.inr (by rw [← HG.out, ← HG.out]; exact hl))⟩
            case measure => simp [intOf]; omega
        · go_quiet (first | (go_at_call 133; refine Calls.quiet_of_same (less32 _ _ _)))
          go_wp2
          go_roundw
          case rel => exact ⟨i + 1, m + nq, dj, by go_num, by omega, by omega, g3, by rw [HW.out]; exact putRow_drewN _ _ _ _ _ _ _, leave.out (Or.inl (by omega))⟩
          case measure => simp [intOf]; omega
    · go_wp2
      go_end0
      exact ⟨rfl, n, by rw [← HO.out, insOuter_stop _ _ _ _ _ hlt]⟩
end Go.Proofs.YtmicdbplkfdfnaaGreatDoor
set_option linter.unusedVariables false
namespace Go.Proofs.YtmicdbplkfdfnaaGreatDoor
open Go.RowKit Go.Sort

/-- The world is as before, but for the row, draws and new blocks. -/
theorem at_row {w wr : World} {blk off : Nat} {d dj : Array Int} (hA : At U32 w blk off dj wr) (hH : Holds U32 w blk off d) (hs : dj.size = d.size) (hb : blk < w.heap.size) :
    (∀ t, t < d.size → wr.cell? ⟨blk, off + t, none⟩ = some (.int .u32 dj[t]!)) ∧ (∀ t, t < d.size → wr.frozen? ⟨blk, off + t, none⟩ = false) := by
  have h := (hA.holds hH hs hb).1
  exact ⟨fun t ht => (h t (by omega)).1, fun t ht => (h t (by omega)).2⟩
theorem at_draw {w wr : World} {blk off : Nat} {d : Array Int} (hA : At U32 w blk off d wr) (q : Nat) : At U32 w blk off d (wr.drewN q) := hA.ahead q
theorem at_swap {w wr : World} {blk off : Nat} {d d0 : Array Int} (hA : At U32 w blk off d wr) (hH : Holds U32 w blk off d0) (hs : d.size = d0.size) (hb : blk < w.heap.size) (q j k : Nat) (hj : j < d.size) (hk : k < d.size) :
    At U32 w blk off (swp d j k) (((wr.drewN q).setCell ⟨blk, off + j, none⟩ (.int .u32 d[k]!)).setCell ⟨blk, off + k, none⟩ (.int .u32 d[j]!)) := by
  have h := ((hA.ahead q).holds hH hs hb).1
  refine (hA.ahead q).step hb (size_swp _ _ _) ⟨0, ?_⟩
  rw [ahead_zero, ← putRow_swp U32 _ blk off d j k hj hk, putRow_self U32 _ blk off d h]
  rfl
/-- One round of siftDown, with the child that is chosen. -/
theorem sd_pick (d : Array Int) {hi F root c : Nat} (h0 : 2 * root + 1 < hi)
    (hc : (c = 2 * root + 2 ∧ 2 * root + 2 < hi ∧ ltInt d[F + (2 * root + 1)]! d[F + (2 * root + 2)]! = true) ∨ (c = 2 * root + 1 ∧ (2 * root + 2 < hi → ltInt d[F + (2 * root + 1)]! d[F + (2 * root + 2)]! = false))) :
    (ltInt d[F + root]! d[F + c]! = true → siftDown ltInt hi F root d = siftDown ltInt hi F c (swp d (F + root) (F + c))) ∧ (ltInt d[F + root]! d[F + c]! = false → siftDown ltInt hi F root d = d) := by
  rcases hc with ⟨rfl, h1, h2⟩ | ⟨rfl, h1⟩
  · exact ⟨fun h3 => sd_right_go ltInt d h1 h2 h3, fun h3 => sd_right_stop ltInt d h1 h2 h3⟩
  · exact ⟨fun h3 => sd_left_go ltInt d h0 h1 h3, fun h3 => sd_left_stop ltInt d h0 h1 h3⟩
set_option maxRecDepth 100000 in
set_option maxHeartbeats 2000000 in
theorem sift32 (blk off len cap lo hi F : Nat) (d : Array Int) (hlen : d.size = len) (w : World) (hH : Holds U32 w blk off d) (hblk : blk < w.heap.size) (hlo : lo ≤ hi) (hb : F + hi ≤ d.size) (hsz : d.size ≤ 1000000) :
    Calls Tryz.prog 152 #[.slice (some ⟨blk, off, none⟩) len cap, .int .i64 lo, .int .i64 hi, .int .i64 F] w fun e w' => e = .returned (.tuple #[]) ∧ At U32 w blk off (siftDown ltInt hi F lo d) w' := by
  subst hlen
  have HH := (show Hid (Holds U32 w blk off d) from hH)
  have hA0 := At.refl hH
  clear hH
  go_enter Tryz.func152, Tryz.ntmps152
  go_wp2
  go_loopw [8] (fun v wr => ∃ (r : Nat) (dk : Array Int), v = .int .i64 r ∧ r ≤ hi ∧ dk.size = d.size ∧ At U32 w blk off dk wr ∧ siftDown ltInt hi F r dk = siftDown ltInt hi F lo d) (fun v _ => hi - (intOf v).toNat)
  case atStart => exact ⟨lo, d, rfl, hlo, rfl, hA0, rfl⟩
  case round =>
    obtain ⟨r, dk, rfl, hr, hs, hA, heq⟩ := hrel
    obtain ⟨hc, hf⟩ := at_row hA HH.out hs hblk
    obtain ⟨G, hG⟩ : ∃ G : Nat → Int, ∀ t, G t = dk[t]! := ⟨fun t => dk[t]!, fun _ => rfl⟩
    have hcw : ∀ t, t < d.size → wr.cell? ⟨blk, off + t, none⟩ = some (.int .u32 (G t)) := fun t ht => by rw [hG]; exact hc t ht
    have HG : Hid (∀ t, G t = dk[t]!) := hG
    have HA := (show Hid (At U32 w blk off dk wr) from hA)
    have HE := (show Hid (siftDown ltInt hi F r dk = siftDown ltInt hi F lo d) from heq)
    clear hG hA heq hc
    by_cases h0 : hi ≤ 2 * r + 1
    · have h0z : (hi : Int) ≤ 2 * (r : Int) + 1 := by omega
      go_wp2
      go_end0
      exact ⟨rfl, by rw [← HE.out, sd_end ltInt dk h0]; exact HA.out⟩
    · have h0z : ¬ ((hi : Int) ≤ 2 * (r : Int) + 1) := by omega
      go_upto_region 3 with fail
      go_cut [36] (fun v wx => ∃ q, v = .bool (decide (2 * r + 2 < hi) && ltInt (G (F + (2 * r + 1))) (G (F + (2 * r + 2)))) ∧ wx = wr.drewN q)
      case first =>
        by_cases h1 : 2 * r + 2 < hi
        · have h1z : 2 * (r : Int) + 1 + 1 < (hi : Int) := by omega
          go_quiet (first | (go_at_call 133; refine Calls.quiet_of_same (less32 _ _ _)))
          go_wp2
          go_meet
          case rel => exact ⟨nq, by simp [h1, Nat.add_assoc], rfl⟩
        · have h1z : ¬ (2 * (r : Int) + 1 + 1 < (hi : Int)) := by omega
          go_quiet (first | (go_at_call 133; refine Calls.quiet_of_same (less32 _ _ _)))
          go_wp2
          go_meet
          case rel => exact ⟨nq, by simp [h1], rfl⟩
      case rest =>
        obtain ⟨q, rfl, rfl⟩ := hcut
        obtain ⟨B, hB⟩ : ∃ B, B = (decide (2 * r + 2 < hi) && ltInt (G (F + (2 * r + 1))) (G (F + (2 * r + 2)))) := ⟨_, rfl⟩
        rw [← hB]
        obtain ⟨c, hc1, hc2⟩ : ∃ c : Nat, (c = if B then 2 * r + 2 else 2 * r + 1) ∧ c < hi := by
          refine ⟨_, rfl, ?_⟩
          split
          · rename_i hBt
            rw [hBt] at hB
            have := hB.symm
            simp at this
            omega
          · omega
        have hpick := sd_pick dk (hi := hi) (F := F) (root := r) (c := c) (by omega) (by
          cases B with
          | true => left; have := hB.symm; simp at this; exact ⟨by simpa using hc1, this.1, by rw [← HG.out, ← HG.out]; exact this.2⟩
          | false =>
            right
            refine ⟨by simpa using hc1, fun h => ?_⟩
            have := hB.symm
            simp [h] at this
            rw [← HG.out, ← HG.out]
            exact this)
        have HP := (show Hid _ from hpick)
        have HB := (show Hid (B = _) from hB)
        have hcr : r < c := by rw [hc1]; split <;> omega
        clear hpick hB
        go_upto_if 36 with fail
        go_cut [9, 36] (fun v _ wx => v = .int .i64 (c : Int) ∧ wx = wr.drewN q)
        case first =>
          cases B with
          | true =>
            go_wp2
            go_meet
            case rel => exact ⟨by rw [hc1]; simp; omega, rfl⟩
          | false =>
            go_wp2
            go_meet
            case rel => exact ⟨by rw [hc1]; simp, rfl⟩
        case rest =>
          obtain ⟨rfl, rfl⟩ := hcut
          clear hc1 HB
          have hcw2 : ∀ t, t < d.size → (wr.drewN q).cell? ⟨blk, off + t, none⟩ = some (.int .u32 (G t)) := hcw
          have hf2 : ∀ t, t < d.size → (wr.drewN q).frozen? ⟨blk, off + t, none⟩ = false := hf
          have HA2 := (show Hid (At U32 w blk off dk (wr.drewN q)) from at_draw HA.out q)
          clear hcw hf HA
          generalize wr.drewN q = wr2 at hcw2 hf2 HA2 ⊢
          go_wp2
          go_quiet (first | (go_at_call 133; refine Calls.quiet_of_same (less32 _ _ _)))
          go_wp2
          · have hl : (!ltInt (G (F + r)) (G (F + c))) = true := by assumption
            (try simp only [Exit.inBlock, Exit.then]); refine bodyPost_ret (results_none rfl _ _ _) rfl ?_
            refine ⟨rfl, ?_⟩
            rw [← HE.out, HP.out.2 (by rw [← HG.out, ← HG.out]; simpa using hl)]
            exact at_draw HA2.out _
          · have hl : (!ltInt (G (F + r)) (G (F + c))) = false := by assumption
            go_region
            all_goals go_wp2
            go_roundw
            case rel =>
              refine ⟨c, swp dk (F + r) (F + c), rfl, by omega, by rw [size_swp]; exact hs, ?_, ?_⟩
              · rw [HG.out, HG.out]
                exact at_swap HA2.out HH.out hs hblk (nq + 1) (F + r) (F + c) (by omega) (by omega)
              · rw [← HE.out, HP.out.1 (by rw [← HG.out, ← HG.out]; simpa using hl)]
            case measure => simp [intOf]; omega
end Go.Proofs.YtmicdbplkfdfnaaGreatDoor
set_option linter.unusedVariables false
namespace Go.Proofs.YtmicdbplkfdfnaaGreatDoor
open Go.RowKit Go.Sort

theorem sift_size (hi F root : Nat) (d : Array Int) : (siftDown ltInt hi F root d).size = d.size := size_siftDown ltInt hi F (hi - root) root d (Nat.le_refl _)
theorem build_size (hi F : Nat) : ∀ (k : Nat) (d : Array Int), (heapBuild ltInt hi F k d).size = d.size
  | 0, d => rfl
  | k + 1, d => by rw [heapBuild, build_size hi F k, sift_size]
theorem half32 (m : Nat) : ((m : Int) - 1).tdiv 2 = (((m - 1) / 2 + 1 : Nat) : Int) - 1 := by
  have := half_start (a := 0) (b := m) (by omega)
  simpa using this
set_option maxRecDepth 100000 in
set_option maxHeartbeats 2000000 in
theorem heap32 (blk off cap a b : Nat) (d : Array Int) (w : World) (hH : Holds U32 w blk off d) (hblk : blk < w.heap.size) (hab : a ≤ b) (hb : b ≤ d.size) (hsz : d.size ≤ 1000000) :
    Calls Tryz.prog 128 #[.slice (some ⟨blk, off, none⟩) d.size cap, .int .i64 a, .int .i64 b] w fun e w' => e = .returned (.tuple #[]) ∧ At U32 w blk off (heapSort ltInt d a b) w' := by
  have HH := (show Hid (Holds U32 w blk off d) from hH)
  have hA0 := At.refl hH
  obtain ⟨m, rfl⟩ : ∃ m, b = a + m := ⟨b - a, by omega⟩
  obtain ⟨K, hK⟩ : ∃ K, K = (m - 1) / 2 + 1 := ⟨_, rfl⟩
  have hq := half32 m
  rw [← hK] at hq
  have hE : heapSort ltInt d a (a + m) = heapPop ltInt a m (heapBuild ltInt m a K d) := by unfold heapSort; rw [show a + m - a = m by omega, ← hK]
  rw [hE]
  obtain ⟨d1, hd1⟩ : ∃ d1, d1 = heapBuild ltInt m a K d := ⟨_, rfl⟩
  have hs1 : d1.size = d.size := by rw [hd1, build_size]
  rw [← hd1]
  have HD := (show Hid (d1 = heapBuild ltInt m a K d) from hd1)
  clear hd1
  have hmz : ((a + m : Nat) : Int) - (a : Int) = (m : Int) := by omega
  have ham : a + m ≤ d.size := hb
  have hKm : K ≤ m ∨ (m = 0 ∧ K = 1) := by omega
  have HE := (show Hid (m = m) from rfl)
  clear hH hE hK
  generalize ((a + m : Nat) : Int) = bz at *
  go_enter Tryz.func128, Tryz.ntmps128
  go_wp2
  go_loopw [9] (fun v wr => ∃ (k : Nat) (dk : Array Int), v = .int .i64 ((k : Int) - 1) ∧ k ≤ K ∧ dk.size = d.size ∧ At U32 w blk off dk wr ∧ heapBuild ltInt m a k dk = d1) (fun v _ => (intOf v + 1).toNat)
  case atStart => exact ⟨K, d, by first | rfl | (rw [hq]) | simp [hq], Nat.le_refl _, rfl, hA0, HD.out.symm⟩
  case round =>
    obtain ⟨k, dk, rfl, hk, hs, hA, heq⟩ := hrel
    obtain ⟨hHk, hbk⟩ := hA.holds HH.out hs hblk
    cases k with
    | succ k =>
      have hz : ((k + 1 : Nat) : Int) - 1 = (k : Int) := by omega
      rw [hz]
      have cs := sift32 blk off d.size cap k m a dk hs wr hHk hbk (by omega) (by omega) (by omega)
      go_wp2_with (first | (go_at_call 152; refine cs.mono ?_; rintro e w1 ⟨rfl, hA1⟩))
      go_roundw
      case rel => exact ⟨k, siftDown ltInt m a k dk, rfl, by omega, by rw [sift_size]; exact hs, hA.stepG hblk (sift_size _ _ _ _) hA1, by rw [← heq, heapBuild]⟩
      case measure => first | (simp [intOf]; done) | (simp [intOf]; omega)
    | zero =>
      rw [heapBuild] at heq
      have HA := (show Hid (At U32 w blk off d1 wr) from heq ▸ hA)
      clear hA hHk hbk hs HD heq
      rw [show ((0 : Nat) : Int) - 1 = -1 from rfl]
      go_wp2
      go_loopw [10] (fun v wr => ∃ (k : Nat) (dk : Array Int), v = .int .i64 ((k : Int) - 1) ∧ k ≤ m ∧ dk.size = d.size ∧ At U32 w blk off dk wr ∧ heapPop ltInt a k dk = heapPop ltInt a m d1) (fun v _ => (intOf v + 1).toNat)
      case atStart => exact ⟨m, d1, rfl, Nat.le_refl _, hs1, HA.out, rfl⟩
      case round =>
        obtain ⟨k, dk, rfl, hk, hs, hA, heq⟩ := hrel
        have HQ := (show Hid (heapPop ltInt a k dk = heapPop ltInt a m d1) from heq)
        clear heq
        cases k with
        | succ k =>
          have hz : ((k + 1 : Nat) : Int) - 1 = (k : Int) := by omega
          rw [hz]
          obtain ⟨hc, hf⟩ := at_row hA HH.out hs hblk
          obtain ⟨G, hG⟩ : ∃ G : Nat → Int, ∀ t, G t = dk[t]! := ⟨fun t => dk[t]!, fun _ => rfl⟩
          have hcw : ∀ t, t < d.size → wr.cell? ⟨blk, off + t, none⟩ = some (.int .u32 (G t)) := fun t ht => by rw [hG]; exact hc t ht
          have HG : Hid (∀ t, G t = dk[t]!) := hG
          have HB := (show Hid (At U32 w blk off dk wr) from hA)
          clear hG hA hc HA
          have cs := fun W (h : At U32 w blk off (swp dk a (a + k)) W) => sift32 blk off d.size cap 0 k a (swp dk a (a + k)) (by rw [size_swp]; exact hs) W (h.holds HH.out (by rw [size_swp]; exact hs) hblk).1 (h.holds HH.out (by rw [size_swp]; exact hs) hblk).2 (by omega) (by rw [size_swp]; omega) (by rw [size_swp]; omega)
          have hsw := at_swap HB.out HH.out hs hblk 1 a (a + k) (by omega) (by omega)
          rw [← HG.out, ← HG.out] at hsw
          have HSW := (show Hid (At U32 w blk off (swp dk a (a + k)) _) from hsw)
          clear hsw
          by_cases hk0 : k = 0
          · subst hk0
            go_wp2
            go_region
            all_goals go_wp2_with (first | (go_at_call 152; fail))
            refine (cs _ HSW.out).mono ?_
            rintro e w1 ⟨rfl, hA1⟩
            go_wp2
            go_roundw
            case rel => exact ⟨0, siftDown ltInt 0 a 0 (swp dk a (a + 0)), rfl, by omega, by rw [sift_size, size_swp]; exact hs, HSW.out.stepG hblk (sift_size _ _ _ _) hA1, by rw [← HQ.out]; rfl⟩
            case measure => simp [intOf]
          · go_wp2
            go_region
            all_goals go_wp2_with (first | (go_at_call 152; fail))
            refine (cs _ HSW.out).mono ?_
            rintro e w1 ⟨rfl, hA1⟩
            go_wp2
            go_roundw
            case rel => exact ⟨k, siftDown ltInt k a 0 (swp dk a (a + k)), rfl, by omega, by rw [sift_size, size_swp]; exact hs, HSW.out.stepG hblk (sift_size _ _ _ _) hA1, by rw [← HQ.out]; rfl⟩
            case measure => simp [intOf]
        | zero =>
          rw [heapPop] at HQ
          go_wp2
          go_end0
          exact ⟨rfl, by rw [← HQ.out]; exact hA⟩
end Go.Proofs.YtmicdbplkfdfnaaGreatDoor
set_option linter.unusedVariables false
namespace Go.Proofs.YtmicdbplkfdfnaaGreatDoor
open Go.RowKit Go.Sort

theorem rev_go (i j : Nat) (d : Array Int) (h : i < j) : reverseLoop i j d = reverseLoop (i + 1) (j - 1) (swp d i j) := by rw [reverseLoop, if_pos h]
theorem rev_stop (i j : Nat) (d : Array Int) (h : ¬ i < j) : reverseLoop i j d = d := by rw [reverseLoop, if_neg h]
set_option maxRecDepth 100000 in
set_option maxHeartbeats 2000000 in
theorem rev32 (blk off cap a b : Nat) (d : Array Int) (w : World) (hH : Holds U32 w blk off d) (hblk : blk < w.heap.size) (hab : a < b) (hb : b ≤ d.size) (hsz : d.size ≤ 1000000) :
    Calls Tryz.prog 131 #[.slice (some ⟨blk, off, none⟩) d.size cap, .int .i64 a, .int .i64 b] w fun e w' => e = .returned (.tuple #[]) ∧ At U32 w blk off (reverseRange d a b) w' := by
  have HH := (show Hid (Holds U32 w blk off d) from hH)
  have hA0 := At.refl hH
  obtain ⟨n, rfl⟩ : ∃ n, b = n + 1 := ⟨b - 1, by omega⟩
  have hE : reverseRange d a (n + 1) = reverseLoop a n d := rfl
  rw [hE]
  clear hH hE
  go_enter Tryz.func131, Tryz.ntmps131
  go_wp2
  go_loopw [6, 7] (fun v u wr => ∃ (i j : Nat) (dk : Array Int), v = .int .i64 i ∧ u = .int .i64 j ∧ j ≤ n ∧ dk.size = d.size ∧ At U32 w blk off dk wr ∧ reverseLoop i j dk = reverseLoop a n d) (fun v u _ => (intOf u - intOf v).toNat)
  case atStart => exact ⟨a, n, d, rfl, by first | rfl | (congr 1; omega) | simp, Nat.le_refl _, rfl, hA0, rfl⟩
  case round =>
    obtain ⟨i, j, dk, rfl, rfl, hj, hs, hA, heq⟩ := hrel
    have HQ := (show Hid (reverseLoop i j dk = reverseLoop a n d) from heq)
    have HB := (show Hid (At U32 w blk off dk wr) from hA)
    by_cases h : i < j
    · obtain ⟨hc, hf⟩ := at_row hA HH.out hs hblk
      obtain ⟨G, hG⟩ : ∃ G : Nat → Int, ∀ t, G t = dk[t]! := ⟨fun t => dk[t]!, fun _ => rfl⟩
      have hcw : ∀ t, t < d.size → wr.cell? ⟨blk, off + t, none⟩ = some (.int .u32 (G t)) := fun t ht => by rw [hG]; exact hc t ht
      have HG : Hid (∀ t, G t = dk[t]!) := hG
      have hsw := at_swap hA HH.out hs hblk 1 i j (by omega) (by omega)
      rw [← hG, ← hG] at hsw
      have HSW := (show Hid (At U32 w blk off (swp dk i j) _) from hsw)
      clear hsw hG hA hc heq
      go_wp2
      go_region
      all_goals go_wp2
      go_roundw
      case rel => exact ⟨i + 1, j - 1, swp dk i j, by go_num, by congr 1; omega, by omega, by rw [size_swp]; exact hs, HSW.out, by rw [← HQ.out, rev_go i j dk h]⟩
      case measure => simp [intOf]; omega
    · clear hA heq
      go_wp2
      go_end0
      exact ⟨rfl, by rw [← HQ.out, rev_stop i j dk h]; exact HB.out⟩
/-- Of fewer than fifty it looks whether they rise already, no more. -/
theorem part_short (d : Array Int) (a b : Nat) (h : b - a < 50) : partialInsertionSort ltInt d a b = (d, decide (scanSorted ltInt d b (a + 1) = b)) := by
  by_cases hs : scanSorted ltInt d b (a + 1) = b
  · rw [decide_eq_true hs]; exact pi_true ltInt a b 0 (a + 1) d (by omega) hs
  · rw [decide_eq_false hs]; exact pi_short ltInt a b 0 (a + 1) d (by omega) hs h
set_option maxRecDepth 100000 in
set_option maxHeartbeats 2000000 in
theorem part32 (blk off cap a b : Nat) (d : Array Int) (w : World) (hH : Holds U32 w blk off d) (hblk : blk < w.heap.size) (hab : a < b) (hb : b ≤ d.size) (hsz : d.size < 50) :
    Calls Tryz.prog 132 #[.slice (some ⟨blk, off, none⟩) d.size cap, .int .i64 a, .int .i64 b] w fun e w' => e = .returned (.bool (partialInsertionSort ltInt d a b).2) ∧ At U32 w blk off (partialInsertionSort ltInt d a b).1 w' := by
  have HH := (show Hid (Holds U32 w blk off d) from hH)
  have hA0 := At.refl hH
  rw [part_short d a b (by omega)]
  dsimp only
  have hba : (b : Int) - (a : Int) < 50 := by omega
  clear hH
  go_enter Tryz.func132, Tryz.ntmps132
  go_wp2
  refine wp_loop_rounds 1 ?_
  rw [rounds_succ]
  go_wp2
  go_loopw [7] (fun v wr => ∃ (i : Nat), v = .int .i64 i ∧ a < i ∧ i ≤ b ∧ At U32 w blk off d wr ∧ scanSorted ltInt d b i = scanSorted ltInt d b (a + 1)) (fun v _ => b - (intOf v).toNat)
  case atStart => exact ⟨a + 1, by go_num, by omega, by omega, hA0, rfl⟩
  case round =>
    obtain ⟨i, rfl, h1, h2, hA, heq⟩ := hrel
    have HQ := (show Hid (scanSorted ltInt d b i = scanSorted ltInt d b (a + 1)) from heq)
    have HB := (show Hid (At U32 w blk off d wr) from hA)
    obtain ⟨hc, hf⟩ := at_row hA HH.out rfl hblk
    obtain ⟨G, hG⟩ : ∃ G : Nat → Int, ∀ t, G t = d[t]! := ⟨fun t => d[t]!, fun _ => rfl⟩
    have hcw : ∀ t, t < d.size → wr.cell? ⟨blk, off + t, none⟩ = some (.int .u32 (G t)) := fun t ht => by rw [hG]; exact hc t ht
    have HG : Hid (∀ t, G t = d[t]!) := hG
    clear hG hA hc heq
    go_wp2
    by_cases h : i < b
    · go_quiet (first | (go_at_call 133; refine Calls.quiet_of_same (less32 _ _ _)))
      go_wp2
      · have hl : (!ltInt (G i) (G (i - 1))) = true := by assumption
        go_roundw
        case rel => exact ⟨i + 1, by go_num, by omega, by omega, at_draw HB.out nq, by rw [← HQ.out, scanSorted_go ltInt d b i h (by rw [← HG.out, ← HG.out]; simpa using hl)]⟩
        case measure => simp [intOf]; omega
      · have hl : (!ltInt (G i) (G (i - 1))) = false := by assumption
        go_ret
        have hr : decide (scanSorted ltInt d b (a + 1) = b) = false := by rw [← HQ.out, scanSorted_stop ltInt d b i (Or.inr (by rw [← HG.out, ← HG.out]; simpa using hl))]; exact decide_eq_false (by omega)
        exact ⟨by rw [hr]; rfl, at_draw HB.out nq⟩
    · go_quiet (first | (go_at_call 133; refine Calls.quiet_of_same (less32 _ _ _)))
      go_wp2
      go_ret
      have hr : decide (scanSorted ltInt d b (a + 1) = b) = true := by rw [← HQ.out, scanSorted_stop ltInt d b i (Or.inl h)]; exact decide_eq_true (by omega)
      exact ⟨by rw [hr]; rfl, at_draw HB.out nq⟩
end Go.Proofs.YtmicdbplkfdfnaaGreatDoor
set_option linter.unusedVariables false
namespace Go.Proofs.YtmicdbplkfdfnaaGreatDoor
open Go.RowKit Go.Sort

/-- The world with a counter behind it. -/
def wS (w : World) (n s : Nat) : World := grow (Sort.ahead w n) #[Obj.cells #[.int .i64 (s : Int)] 3]
theorem wS_draw (w : World) (n s q : Nat) : (wS w n s).drewN q = wS w (n + q) s := by
  show Sort.ahead (wS w n s) q = _
  unfold wS
  rw [ahead_grow, ahead_ahead]
theorem wS_cell (w : World) (n s : Nat) : (wS w n s).cell? ⟨w.heap.size, 0, none⟩ = some (.int .i64 (s : Int)) := grow_one_cell (Sort.ahead w n) _ _
theorem wS_frozen (w : World) (n s : Nat) : (wS w n s).frozen? ⟨w.heap.size, 0, none⟩ = false := grow_one_frozen (Sort.ahead w n) _ _
theorem wS_set (w : World) (n s t : Nat) : (wS w n s).setCell ⟨w.heap.size, 0, none⟩ (.int .i64 (t : Int)) = wS w n t := setCell_grow_one (Sort.ahead w n) _ _ _
theorem wS_row {w : World} {blk off : Nat} {d : Array Int} (hH : Holds U32 w blk off d) (hblk : blk < w.heap.size) (n s : Nat) : ∀ t, t < d.size → (wS w n s).cell? ⟨blk, off + t, none⟩ = some (.int .u32 d[t]!) := fun t ht =>
  ((holds_grow U32 (Sort.ahead w n) _ blk off d (by simpa using hblk) (holds_ahead _ _ _ _ _ _ hH)) t ht).1
set_option maxRecDepth 100000 in
set_option maxHeartbeats 2000000 in
theorem order2_32 (blk off len cap a b n s : Nat) (d : Array Int) (hlen : d.size = len) (w : World) (hH : Holds U32 w blk off d) (hblk : blk < w.heap.size) (ha : a < d.size) (hb : b < d.size) (hsz : d.size ≤ 1000000) (hs : s ≤ 100) :
    Calls Tryz.prog 163 #[.slice (some ⟨blk, off, none⟩) len cap, .int .i64 a, .int .i64 b, .pointer (some ⟨w.heap.size, 0, none⟩)] (wS w n s) fun e w' =>
      e = .returned (.tuple #[.int .i64 ((order2 ltInt d a b s).1 : Nat), .int .i64 ((order2 ltInt d a b s).2.1 : Nat)]) ∧ ∃ n', w' = wS w n' (order2 ltInt d a b s).2.2 := by
  subst hlen
  have hc := wS_row hH hblk n s
  obtain ⟨W, hW⟩ : ∃ W, W = wS w n s := ⟨_, rfl⟩
  rw [← hW] at hc ⊢
  obtain ⟨G, hG⟩ : ∃ G : Nat → Int, ∀ t, G t = d[t]! := ⟨fun t => d[t]!, fun _ => rfl⟩
  have hcw : ∀ t, t < d.size → W.cell? ⟨blk, off + t, none⟩ = some (.int .u32 (G t)) := fun t ht => by rw [hG]; exact hc t ht
  have HG : Hid (∀ t, G t = d[t]!) := hG
  have HW := (show Hid (W = wS w n s) from hW)
  clear hG hc hW hH
  go_enter Tryz.func163, Tryz.ntmps163
  go_wp2
  go_quiet (first | (go_at_call 133; refine Calls.quiet_of_same (less32 _ _ _)))
  have e1 : (W.drewN nq) = wS w (n + nq) s := by rw [HW.out, wS_draw]
  rw [e1]
  have c1 := wS_cell w (n + nq) s
  have c2 := wS_frozen w (n + nq) s
  go_wp2
  · have hl : ltInt (G b) (G a) = true := by assumption
    go_ret2
    have hr : order2 ltInt d a b s = (b, a, s + 1) := by unfold order2; rw [← HG.out, ← HG.out, hl]; rfl
    rw [hr]
    exact ⟨rfl, n + nq, wS_set w (n + nq) s (s + 1)⟩
  · have hl : ltInt (G b) (G a) = false := by assumption
    go_ret2
    have hr : order2 ltInt d a b s = (a, b, s) := by unfold order2; rw [← HG.out, ← HG.out, hl]; rfl
    rw [hr]
    exact ⟨rfl, n + nq, rfl⟩
theorem order2_in (d : Array Int) {a b s : Nat} (ha : a < d.size) (hb : b < d.size) (hs : s ≤ 50) : (order2 ltInt d a b s).1 < d.size ∧ (order2 ltInt d a b s).2.1 < d.size ∧ (order2 ltInt d a b s).2.2 ≤ s + 1 := by
  unfold order2
  split <;> simp <;> omega
set_option maxRecDepth 100000 in
set_option maxHeartbeats 2000000 in
theorem median32 (blk off len cap a b c n s : Nat) (d : Array Int) (hlen : d.size = len) (w : World) (hH : Holds U32 w blk off d) (hblk : blk < w.heap.size) (ha : a < d.size) (hb : b < d.size) (hc : c < d.size) (hsz : d.size ≤ 1000000) (hs : s ≤ 40) :
    Calls Tryz.prog 156 #[.slice (some ⟨blk, off, none⟩) len cap, .int .i64 a, .int .i64 b, .int .i64 c, .pointer (some ⟨w.heap.size, 0, none⟩)] (wS w n s) fun e w' =>
      e = .returned (.int .i64 ((median ltInt d a b c s).1 : Nat)) ∧ ∃ n', w' = wS w n' (median ltInt d a b c s).2 := by
  have cc := fun a b n s ha hb hs => order2_32 blk off len cap a b n s d hlen w hH hblk ha hb hsz hs
  obtain ⟨p1, p2, p3⟩ := order2_in d ha hb (s := s) (by omega)
  have hm : median ltInt d a b c s = ((order2 ltInt d (order2 ltInt d a b s).1 (order2 ltInt d (order2 ltInt d a b s).2.1 c (order2 ltInt d a b s).2.2).1 (order2 ltInt d (order2 ltInt d a b s).2.1 c (order2 ltInt d a b s).2.2).2.2).2.1, (order2 ltInt d (order2 ltInt d a b s).1 (order2 ltInt d (order2 ltInt d a b s).2.1 c (order2 ltInt d a b s).2.2).1 (order2 ltInt d (order2 ltInt d a b s).2.1 c (order2 ltInt d a b s).2.2).2.2).2.2) := rfl
  rw [hm]
  clear hm
  have k1 := fun (n : Nat) => cc a b n s ha hb (by omega)
  generalize order2 ltInt d a b s = r1 at *
  obtain ⟨q1, q2, q3⟩ := order2_in d p2 hc (s := r1.2.2) (by omega)
  have k2 := fun n => cc r1.2.1 c n r1.2.2 p2 hc (by omega)
  generalize order2 ltInt d r1.2.1 c r1.2.2 = r2 at *
  obtain ⟨t1, t2, t3⟩ := order2_in d p1 q1 (s := r2.2.2) (by omega)
  have k3 := fun n => cc r1.1 r2.1 n r2.2.2 p1 q1 (by omega)
  generalize order2 ltInt d r1.1 r2.1 r2.2.2 = r3 at *
  have K1 := (show Hid _ from k1)
  have K2 := (show Hid _ from k2)
  have K3 := (show Hid _ from k3)
  clear cc k1 k2 k3 hH
  go_enter Tryz.func156, Tryz.ntmps156
  go_wp2_with (first | (go_at_call 163; fail))
  refine (K1.out n).mono ?_
  rintro e w1 ⟨rfl, n1, rfl⟩
  go_wp2_with (first | (go_at_call 163; fail))
  refine (K2.out n1).mono ?_
  rintro e w1 ⟨rfl, n2, rfl⟩
  go_wp2_with (first | (go_at_call 163; fail))
  refine (K3.out n2).mono ?_
  rintro e w1 ⟨rfl, n3, rfl⟩
  go_wp2
  go_ret
  exact ⟨rfl, n3, rfl⟩
theorem median_le (d : Array Int) {a b c : Nat} (ha : a < d.size) (hb : b < d.size) (hc : c < d.size) : (median ltInt d a b c 0).2 ≤ 3 := by
  obtain ⟨p1, p2, p3⟩ := order2_in d ha hb (s := 0) (by omega)
  obtain ⟨q1, q2, q3⟩ := order2_in d p2 hc (s := (order2 ltInt d a b 0).2.2) (by omega)
  obtain ⟨t1, t2, t3⟩ := order2_in d p1 q1 (s := (order2 ltInt d (order2 ltInt d a b 0).2.1 c (order2 ltInt d a b 0).2.2).2.2) (by omega)
  have hm : (median ltInt d a b c 0).2 = (order2 ltInt d (order2 ltInt d a b 0).1 (order2 ltInt d (order2 ltInt d a b 0).2.1 c (order2 ltInt d a b 0).2.2).1 (order2 ltInt d (order2 ltInt d a b 0).2.1 c (order2 ltInt d a b 0).2.2).2.2).2.2 := rfl
  omega
def hintN : Hint → Int
  | .unknown => 0
  | .increasing => 1
  | .decreasing => 2
theorem pivot_mid (d : Array Int) (a m : Nat) (h8 : 8 ≤ m) (h50 : m < 50) (hb : a + m ≤ d.size) : ∃ p s, median ltInt d (a + m / 4) (a + m / 4 * 2) (a + m / 4 * 3) 0 = (p, s) ∧ s ≤ 3 ∧ choosePivot ltInt d a (a + m) = (p, if s = 0 then .increasing else .unknown) := by
  have hs := median_le d (a := a + m / 4) (b := a + m / 4 * 2) (c := a + m / 4 * 3) (by omega) (by omega) (by omega)
  have he : choosePivot ltInt d a (a + m) = ((median ltInt d (a + m / 4) (a + m / 4 * 2) (a + m / 4 * 3) 0).1, if (median ltInt d (a + m / 4) (a + m / 4 * 2) (a + m / 4 * 3) 0).2 = 0 then .increasing else if (median ltInt d (a + m / 4) (a + m / 4 * 2) (a + m / 4 * 3) 0).2 = 12 then .decreasing else .unknown) := by
    unfold choosePivot
    dsimp only
    rw [show a + m - a = m by omega, if_pos (show m ≥ 8 from h8), if_neg (show ¬ m ≥ 50 by omega), Nat.mul_one]
  rw [he]
  generalize median ltInt d (a + m / 4) (a + m / 4 * 2) (a + m / 4 * 3) 0 = r at *
  obtain ⟨p, s⟩ := r
  refine ⟨p, s, rfl, hs, ?_⟩
  dsimp only at *
  rw [if_neg (show ¬ s = 12 by omega)]
set_option maxRecDepth 100000 in
set_option maxHeartbeats 2000000 in
theorem pivot32 (blk off cap a b : Nat) (d : Array Int) (w : World) (hH : Holds U32 w blk off d) (hblk : blk < w.heap.size) (h8 : 8 ≤ b - a) (h50 : b - a < 50) (hb : b ≤ d.size) (hsz : d.size ≤ 1000000) :
    Calls Tryz.prog 130 #[.slice (some ⟨blk, off, none⟩) d.size cap, .int .i64 a, .int .i64 b] w fun e w' => e = .returned (.tuple #[.int .i64 ((choosePivot ltInt d a b).1 : Nat), .int .i64 (hintN (choosePivot ltInt d a b).2)]) ∧ ∃ m os, w' = grow (Sort.ahead w m) os := by
  obtain ⟨m, rfl⟩ : ∃ m, b = a + m := ⟨b - a, by omega⟩
  rw [show a + m - a = m by omega] at h8 h50
  obtain ⟨p, s, hm, hs3, hp⟩ := pivot_mid d a m h8 h50 hb
  rw [hp]
  have cm := fun n => median32 blk off d.size cap (a + m / 4) (a + m / 4 * 2) (a + m / 4 * 3) n 0 d rfl w hH hblk (by omega) (by omega) (by omega) hsz (by omega)
  rw [hm] at cm
  obtain ⟨x, hx⟩ : ∃ x, x = m / 4 := ⟨_, rfl⟩
  rw [← hx] at cm
  have hx2 : x ≤ 12 := by omega
  have t1 : (m : Int).tdiv 4 = (x : Int) := by rw [hx]; exact (Int.ofNat_tdiv m 4).symm
  have t2 : (m : Int) / 4 = (x : Int) := by omega
  have e0 : w.alloc (Obj.cells #[.int .i64 0] 3) = wS w 0 0 := by
    unfold wS
    rw [alloc_eq_grow]
    rfl
  have hmz : ((a + m : Nat) : Int) - (a : Int) = (m : Int) := by omega
  have n1 : ((a + x : Nat) : Int) = (a : Int) + (x : Int) := by omega
  have n2 : ((a + x * 2 : Nat) : Int) = (a : Int) + (x : Int) * 2 := by omega
  have n3 : ((a + x * 3 : Nat) : Int) = (a : Int) + (x : Int) * 3 := by omega
  rw [n1, n2, n3] at cm
  have CM := (show Hid _ from cm)
  clear cm hm hp hx n1 n2 n3 hH
  generalize ((a + m : Nat) : Int) = bz at *
  go_enter Tryz.func130, Tryz.ntmps130
  go_wp2_with (first | (go_at_call 156; fail))
  refine (CM.out 0).mono ?_
  rintro e w1 ⟨rfl, n', rfl⟩
  dsimp only
  have c1 := wS_cell w n' s
  by_cases h0 : s = 0
  · subst h0
    go_wp2
    go_ret2
    exact ⟨rfl, n', _, rfl⟩
  · have h0z : ((s : Int) == 0) = false := by simp; omega
    have h12z : ((s : Int) == 12) = false := by simp; omega
    go_wp2
    go_ret2
    exact ⟨by first | rfl | (simp [h0, hintN]; done), n', _, rfl⟩
end Go.Proofs.YtmicdbplkfdfnaaGreatDoor
