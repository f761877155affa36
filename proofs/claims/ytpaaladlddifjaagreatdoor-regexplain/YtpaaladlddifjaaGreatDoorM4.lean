/- The machine: try. -/
import Derived.Test.YtpaaladlddifjaaGreatDoorM3
set_option linter.unusedVariables false
namespace Go.Proofs.YtpaaladlddifjaaGreatDoor
open Go.RowKit Re

theorem codeOf_len (us : List Nat) : (codeOf us).length = 3 * us.length := by
  induction us with
  | nil => rfl
  | cons u us ih => simp only [codeOf, List.flatMap_cons, List.length_append, List.length_cons, List.length_nil] at *; omega
theorem codeOf_at : ∀ (us : List Nat) (k : Nat), k < us.length → (codeOf us)[k * 3]? = some (.int .i64 0) ∧ (codeOf us)[k * 3 + 1]? = some (.int .i64 ((us[k]?.getD 0 : Nat) : Int)) ∧ (codeOf us)[k * 3 + 2]? = some (.int .i64 0)
  | [], k, h => by simp at h
  | u :: us, 0, _ => ⟨rfl, rfl, rfl⟩
  | u :: us, k + 1, h => by
    have ih := codeOf_at us k (by simpa using h)
    have e : codeOf (u :: us) = [.int .i64 0, .int .i64 (u : Int), .int .i64 0] ++ codeOf us := rfl
    rw [e]
    refine ⟨?_, ?_, ?_⟩
    · rw [List.getElem?_append_right (by simp; omega)]
      simpa [show (k + 1) * 3 - 3 = k * 3 by omega] using ih.1
    · rw [List.getElem?_append_right (by simp; omega)]
      simpa [show (k + 1) * 3 + 1 - 3 = k * 3 + 1 by omega] using ih.2.1
    · rw [List.getElem?_append_right (by simp; omega)]
      simpa [show (k + 1) * 3 + 2 - 3 = k * 3 + 2 by omega] using ih.2.2
theorem code_at {w : World} {B : Nat} {cv : Value} {us : List Nat} (h : w.ownsRow B 86 3 cv us.length (codeOf us)) {k : Nat} (hk : k < us.length) : ∃ C cap, cv = .slice (some ⟨C, 0, none⟩) us.length cap ∧ w.cell? ⟨C, k * 3, none⟩ = some (.int .i64 0) ∧ w.cell? ⟨C, k * 3 + 1, none⟩ = some (.int .i64 ((us[k]?.getD 0 : Nat) : Int)) ∧ w.cell? ⟨C, k * 3 + 2, none⟩ = some (.int .i64 0) := by
  rcases h.2 with ⟨_, h0⟩ | ⟨g, cap, cur, rfl, _, hg, _, _, _, ht⟩
  · omega
  · have hh : ∀ j, j < us.length * 3 → w.cell? ⟨g, j, none⟩ = (codeOf us)[j]? := by
      intro j hj
      rw [cell_of_row w g j cur 86 (0, 0) hg, ← ht, List.getElem?_take_of_lt (by omega)]
      simp
    obtain ⟨a1, a2, a3⟩ := codeOf_at us k hk
    exact ⟨g, cap, rfl, by rw [hh _ (by omega), a1], by rw [hh _ (by omega), a2], by rw [hh _ (by omega), a3]⟩
theorem code_slice {w : World} {B : Nat} {cv : Value} {n : Nat} {xs : List Value} (h : w.ownsRow B 86 3 cv n xs) : ∃ a cap, cv = .slice a n cap := by
  rcases h.2 with ⟨rfl, rfl⟩ | ⟨g, cap, cur, rfl, _⟩
  · exact ⟨_, _, rfl⟩
  · exact ⟨_, _, rfl⟩
def pcOf (M : Nat) (w : World) : Nat := match w.cell? ⟨M, 2, none⟩ with
  | some (.int _ z) => z.toNat
  | _ => 0
theorem pcOf_mc {w : World} {M P pc p took steps G H : Nat} {lv : Value} (h : w.heap[M]? = some (Obj.cells (mcA P lv pc p took steps G H) 75 (0, 0))) : pcOf M w = pc := by
  unfold pcOf
  rw [(mc_cells h).2.2.1]
  simp
/-- A block of another kind than a machine's and its registers'. -/
theorem kx_two {w w' : World} {M G : Nat} {ar br : Array Value} (hM : w.heap[M]? = some (Obj.cells ar 75 (0, 0))) (hG : w.heap[G]? = some (Obj.cells br 3 (0, 0))) (k : Kx [M, G] w w') {q : Nat} {cur : Array Value} {t : TypeId} {fr : Nat × Nat} (hq : w.heap[q]? = some (Obj.cells cur t fr)) (h1 : t ≠ 75) (h2 : t ≠ 3) : w'.heap[q]? = some (Obj.cells cur t fr) := by
  refine k.get hq (fun hm => ?_)
  rcases List.mem_cons.1 hm with e | e
  · rw [e, hM] at hq
    simp at hq
    exact h1 hq.2.1.symm
  · rw [List.mem_singleton.1 e, hG] at hq
    simp at hq
    exact h2 hq.2.1.symm
theorem two_kinds {w : World} {M G : Nat} {ar br : Array Value} (hM : w.heap[M]? = some (Obj.cells ar 75 (0, 0))) (hG : w.heap[G]? = some (Obj.cells br 3 (0, 0))) {t : TypeId} (h1 : t ≠ 75) (h2 : t ≠ 3) : ∀ i ∈ [M, G], ∀ cur fr, w.heap[i]? ≠ some (Obj.cells cur t fr) := by
  intro i hi
  rcases List.mem_cons.1 hi with e | e
  · rw [e]; exact not_kind hM (Ne.symm h1)
  · rw [List.mem_singleton.1 e]; exact not_kind hG (Ne.symm h2)
set_option maxRecDepth 100000 in
set_option maxHeartbeats 1000000 in
theorem try_any {w : World} {M P pc p took G H c B : Nat} {a : Option Addr} {l us : List Nat} (hu : ∀ u ∈ us, u < 65536) (hn : us.length ≤ 300) (q : Nat) (hq : q ≤ l.length) (hm : l.length ≤ 2000)
    (h : w.heap[M]? = some (Obj.cells (mcA P (.slice a l.length c) pc p took 1073741824 G H) 75 (0, 0))) (hP : PatIs w B P us) (hl : Lu w a l) (ht : took + 1000 < 1073741824)
    (r0 r1 : Int) (hr0 : -1 ≤ r0) (hr1 : -1 ≤ r1) (hG : w.heap[G]? = some (Obj.cells #[.int .i64 r0, .int .i64 r1] 3 (0, 0))) :
    Calls Tryz.prog 28 #[.pointer (some ⟨M, 0, none⟩), .int .i64 (q : Int)] w fun e w' => ∃ pc' p' took' r0' r1', w'.heap[M]? = some (Obj.cells (mcA P (.slice a l.length c) pc' p' took' 1073741824 G H) 75 (0, 0)) ∧ took' ≤ took + 1 + us.length ∧ w'.heap[G]? = some (Obj.cells #[.int .i64 r0', .int .i64 r1'] 3 (0, 0)) ∧ -1 ≤ r0' ∧ -1 ≤ r1' ∧ Kx [M, G] w w' ∧
      ((e = .returned (.bool true) ∧ Here us l q ∧ r0' = q ∧ r1' = q + us.length) ∨ (e = .returned (.bool false) ∧ ¬ Here us l q)) := by
  obtain ⟨cv, hp1, hp2⟩ := hP
  obtain ⟨ca, cc, rfl⟩ := code_slice hp2
  have cs := step_any h (by omega) (by omega)
  have HP1 : Hid (w.heap[P]? = some (Obj.cells (ptA (.slice ca us.length cc) 2) 52 (0, 0))) := hp1
  have HP2 : Hid (w.ownsRow B 86 3 (.slice ca us.length cc) us.length (codeOf us)) := hp2
  have HG : Hid (w.heap[G]? = some (Obj.cells #[.int .i64 r0, .int .i64 r1] 3 (0, 0))) := hG
  have HL : Hid (Lu w a l) := hl
  have HM : Hid (w.heap[M]? = some (Obj.cells (mcA P (.slice a l.length c) pc p took 1073741824 G H) 75 (0, 0))) := h
  clear h hp1 hp2 hl hG
  go_enter Tryz.func28, Tryz.ntmps28
  go_wp2_with (first | (go_at_call 46; refine cs.mono ?_; rintro e w1 ⟨⟨v1, rfl⟩, h1, k1⟩; have cut := cut_zero h1; clear cs) | (go_at_call 47; refine cut.mono ?_; rintro e w2 ⟨⟨v2, rfl⟩, h2, k2⟩; have k3 : Kx [M] w2 ((w2.setCell ⟨M, 2, none⟩ (.int .i64 0)).setCell ⟨M, 3, none⟩ (.int .i64 (q : Int))) := ((Kx.refl [M] w2).set (by simp) _).set (by simp) _; have h3 : ((w2.setCell ⟨M, 2, none⟩ (.int .i64 0)).setCell ⟨M, 3, none⟩ (.int .i64 (q : Int))).heap[M]? = some (Obj.cells (mcA P (.slice a l.length c) 0 q (took + 1) 1073741824 G H) 75 (0, 0)) := heap_put (heap_put h2 2 _) 3 _; have hf2 := (mc_cells h2).2.2.2.2.2.2.2.2.2.2.2.2; have m2 := (mc_cells h2).2.2.1; have m3 := (mc_cells h2).2.2.2.1; have c0 := (mc_cells h3).1; have P3 := kx_kind h2 k3 (kx_kind h1 k2 (kx_kind HM.out k1 HP1.out (by decide)) (by decide)) (by decide); have p3 := (pt_cells P3).2.2.2.1; have J3 : Hid (_ ∧ Kx [M] w _) := ⟨h3, (k1.same k2).same k3⟩; clear P3 cut h1 h2 k1 k2 k3 h3))
  obtain ⟨h3, k3⟩ := J3.out
  generalize ((w2.setCell ⟨M, 2, none⟩ (.int .i64 0)).setCell ⟨M, 3, none⟩ (.int .i64 (q : Int))) = W3 at *
  have hG3 := kx_kind HM.out k3 HG.out (by decide)
  have hMG : M ∉ [G] := by
    intro hm
    rw [List.mem_singleton.1 hm, hG3] at h3
    simp at h3
  refine (forget_any h3 r0 r1 hr0 hr1 hG3).mono ?_
  rintro e w4 ⟨⟨v4, rfl⟩, g4, k4⟩
  have h4 := k4.get h3 hMG
  have cset := set_any h4 (-1) (-1) g4 0 (by omega) (q : Int)
  have J4 : Hid (w4.heap[M]? = some (Obj.cells (mcA P (.slice a l.length c) 0 q (took + 1) 1073741824 G H) 75 (0, 0)) ∧ Kx [M, G] w w4) := ⟨h4, (k3.mono (by simp)).trans k4 (by simp)⟩
  clear h3 k3 hG3 J3 c0 p3 g4 k4 h4 hf2 m2 m3
  go_wp2_with (first | (go_at_call 49; refine cset.mono ?_; rintro e w5 ⟨⟨v5, rfl⟩, g5, k5⟩; have J5 : Hid (w5.heap[M]? = some (Obj.cells (mcA P (.slice a l.length c) 0 q (took + 1) 1073741824 G H) 75 (0, 0)) ∧ w5.heap[G]? = some (Obj.cells #[.int .i64 (q : Int), .int .i64 (-1)] 3 (0, 0)) ∧ Kx [M, G] w w5) := ⟨k5.get J4.out.1 hMG, g5, J4.out.2.trans k5 (by simp)⟩; clear g5 k5 J4))
  go_loopw [] (fun wr => ∃ k : Nat, k ≤ us.length ∧ q + k ≤ l.length ∧ (∀ i, i < k → l[q + i]?.getD 0 = us[i]?.getD 0) ∧ wr.heap[M]? = some (Obj.cells (mcA P (.slice a l.length c) k (q + k) (took + 1 + k) 1073741824 G H) 75 (0, 0)) ∧ wr.heap[G]? = some (Obj.cells #[.int .i64 (q : Int), .int .i64 (-1)] 3 (0, 0)) ∧ Kx [M, G] w wr) (fun wr => us.length - pcOf M wr)
  case atStart => exact ⟨0, Nat.zero_le _, hq, fun i hi => absurd hi (by omega), J5.out.1, J5.out.2.1, J5.out.2.2⟩
  case round =>
    obtain ⟨k, hk, hqk, hall, hMr, hGr, hK⟩ := hrel
    have hPr := kx_two HM.out HG.out hK HP1.out (by decide) (by decide)
    have hOr := hK.owns HP2.out (fun g hg hm => by
      rcases List.mem_cons.1 hm with e | e
      · exact owns_ne HP2.out HM.out (by decide) g hg e
      · exact owns_ne HP2.out HG.out (by decide) g hg (List.mem_singleton.1 e))
    have hLr := HL.out.kept hK (two_kinds HM.out HG.out (by decide) (by decide))
    obtain ⟨c0, c1, c2, c3, c4, c5, c6, c7, c8, c9, c10, c11, hf⟩ := mc_cells hMr
    have p0 := (pt_cells hPr).1
    by_cases hlt : k < us.length
    · obtain ⟨C, cap, e, x0, x1, x2⟩ := code_at hOr hlt
      cases e
      have JM : Hid (wr.heap[M]? = some (Obj.cells (mcA P (.slice a l.length c) k (q + k) (took + 1 + k) 1073741824 G H) 75 (0, 0))) := hMr
      have JG : Hid (wr.heap[G]? = some (Obj.cells #[.int .i64 (q : Int), .int .i64 (-1)] 3 (0, 0))) := hGr
      have JP : Hid (wr.heap[P]? = some (Obj.cells (ptA (.slice (some ⟨C, 0, none⟩) us.length cc) 2) 52 (0, 0))) := hPr
      have JL : Hid (Lu wr a l) := hLr
      have JK : Hid (Kx [M, G] w wr) := hK
      have JA : Hid (∀ i, i < k → l[q + i]?.getD 0 = us[i]?.getD 0) := hall
      have hux := us_lt hu k
      generalize hxe : us[k]?.getD 0 = x at *
      have JX : Hid (us[k]?.getD 0 = x) := hxe
      clear hxe hMr hGr hPr hLr hOr hK hall
      go_wp2
      go_quiet (fail)
      go_wp2
      obtain ⟨W, hW⟩ : ∃ W, W = wr.drewN nq := ⟨_, rfl⟩
      have E : wr.cell? = W.cell? := by funext z; rw [hW]; rfl
      have F : wr.frozen? = W.frozen? := by funext z; rw [hW]; rfl
      have hkW : Kx [] wr W := by rw [hW]; exact Kx.drewN _ _ _
      have lM := hkW.get JM.out (by simp)
      have lG := hkW.get JG.out (by simp)
      have lP := hkW.get JP.out (by simp)
      have lL := JL.out.kept hkW (by simp)
      have lK := JK.out.trans hkW (by simp)
      rw [← hW]
      rw [E] at c0 c2 p0 x0 x1 x2
      rw [F] at hf
      have JM0 := JM
      replace JM : Hid _ := lM
      replace JG : Hid _ := lG
      replace JP : Hid _ := lP
      replace JL : Hid (Lu W a l) := lL
      replace JK : Hid _ := lK
      clear hW E F hkW lM lG lP lL lK c1 c3 c4 c5 c6 c7 c8 c9 c10 c11
      have n1 := World.new_ne W _ c0
      have n2 := World.new_ne W _ c2
      have n3 := World.new_ne W _ p0
      have n4 := World.new_ne W _ x0
      have n5 := World.new_ne W _ x1
      have n6 := World.new_ne W _ x2
      go_region_held3 (fun w' => w'.cell? ⟨M, 0, none⟩ = some (.pointer (some ⟨P, 0, none⟩)) ∧ w'.cell? ⟨M, 2, none⟩ = some (.int .i64 (k : Int)) ∧ w'.cell? ⟨P, 0, none⟩ = some (.slice (some ⟨C, 0, none⟩) us.length cc) ∧ w'.cell? ⟨C, k * 3, none⟩ = some (.int .i64 0) ∧ w'.cell? ⟨C, k * 3 + 1, none⟩ = some (.int .i64 (x : Int)) ∧ w'.cell? ⟨C, k * 3 + 2, none⟩ = some (.int .i64 0)) (go_keep) (fail)
      obtain ⟨V, hV⟩ : ∃ V, V = (W.alloc (Obj.cells #[.int .i64 0, .int .i64 (x : Int), .int .i64 0] 86)).drew := ⟨_, rfl⟩
      have hkV : Kx [] W V := by rw [hV]; exact (Kx.alloc _ _ _).drw1
      have vI : V.heap[W.heap.size]? = some (Obj.cells #[.int .i64 0, .int .i64 (x : Int), .int .i64 0] 86 (0, 0)) := by rw [hV]; exact heap_new W _
      have vM := hkV.get JM.out (by simp)
      have hIM : W.heap.size ∉ [M] := by have := lt_get JM.out; simp; omega
      have k2 : Kx [M] V (V.setCell ⟨M, 2, none⟩ (.int .i64 ((k : Int) + 1))) := (Kx.refl _ _).set (by simp) _
      have v2M : (V.setCell ⟨M, 2, none⟩ (.int .i64 ((k : Int) + 1))).heap[M]? = some (Obj.cells (mcA P (.slice a l.length c) (k + 1) (q + k) (took + 1 + k) 1073741824 G H) 75 (0, 0)) := heap_put vM 2 _
      have v2I := k2.get vI hIM
      have v2P := kx_kind vM k2 (hkV.get JP.out (by simp)) (by decide)
      have v2G := kx_kind vM k2 (hkV.get JG.out (by simp)) (by decide)
      have v2L := (JL.out.kept hkV (by simp)).kept k2 (mc_ne vM)
      have v2K := (JK.out.trans hkV (by simp)).trans k2 (by simp)
      rw [← hV]
      have vc2 : V.cell? ⟨M, 2, none⟩ = some (.int .i64 (k : Int)) := (mc_cells vM).2.2.1
      have vf := (mc_cells vM).2.2.2.2.2.2.2.2.2.2.2.2
      have y0 : (V.setCell ⟨M, 2, none⟩ (.int .i64 ((k : Int) + 1))).cell? ⟨W.heap.size, 0, none⟩ = some (.int .i64 0) := cell_at v2I 0 rfl
      have y1 : (V.setCell ⟨M, 2, none⟩ (.int .i64 ((k : Int) + 1))).cell? ⟨W.heap.size, 1, none⟩ = some (.int .i64 (x : Int)) := cell_at v2I 1 rfl
      have y2 : (V.setCell ⟨M, 2, none⟩ (.int .i64 ((k : Int) + 1))).cell? ⟨W.heap.size, 2, none⟩ = some (.int .i64 0) := cell_at v2I 2 rfl
      clear hV hkV vI vM hIM k2 v2I JM JG JP JL JK n1 n2 n3 n4 n5 n6 c0 c2 p0 x0 x1 x2 hf
      by_cases hyes : q + k < l.length ∧ l[q + k]?.getD 0 = x
      · have cd := does_yes x hux _ _ v2M v2P v2L hyes.1 (by omega) hyes.2 (by omega) (by omega)
        have J2 : Hid ((V.setCell ⟨M, 2, none⟩ (.int .i64 ((k : Int) + 1))).heap[M]? = some (Obj.cells (mcA P (.slice a l.length c) (k + 1) (q + k) (took + 1 + k) 1073741824 G H) 75 (0, 0)) ∧ (V.setCell ⟨M, 2, none⟩ (.int .i64 ((k : Int) + 1))).heap[G]? = some (Obj.cells #[.int .i64 (q : Int), .int .i64 (-1)] 3 (0, 0)) ∧ Kx [M, G] w (V.setCell ⟨M, 2, none⟩ (.int .i64 ((k : Int) + 1)))) := ⟨v2M, v2G, v2K⟩
        clear v2M v2P v2L v2G v2K
        go_wp2_with (first | (go_at_call 50; refine cd.mono ?_; rintro e w6 ⟨rfl, q1, q2⟩))
        go_roundw
        case rel => exact ⟨k + 1, by omega, by omega, fun i hi => (by
          rcases Nat.lt_or_ge i k with h1 | h1
          · exact JA.out i h1
          · obtain rfl : i = k := by omega
            rw [hyes.2, JX.out]), q1, kx_kind J2.out.1 q2 J2.out.2.1 (by decide), J2.out.2.2.trans q2 (by simp)⟩
        case measure =>
          rw [pcOf_mc q1, pcOf_mc JM0.out]
          omega
      · have cd := does_no x hux _ _ v2M v2P v2L (by omega) (by omega) (fun h1 h2 => hyes ⟨h1, h2⟩) (by omega) (by omega)
        have J2 : Hid ((V.setCell ⟨M, 2, none⟩ (.int .i64 ((k : Int) + 1))).heap[M]? = some (Obj.cells (mcA P (.slice a l.length c) (k + 1) (q + k) (took + 1 + k) 1073741824 G H) 75 (0, 0)) ∧ (V.setCell ⟨M, 2, none⟩ (.int .i64 ((k : Int) + 1))).heap[G]? = some (Obj.cells #[.int .i64 (q : Int), .int .i64 (-1)] 3 (0, 0)) ∧ Kx [M, G] w (V.setCell ⟨M, 2, none⟩ (.int .i64 ((k : Int) + 1)))) := ⟨v2M, v2G, v2K⟩
        clear v2M v2P v2L v2G v2K
        go_wp2_with (first | (go_at_call 50; refine cd.mono ?_; rintro e w6 ⟨rfl, q1, q2⟩; have cb := back_none q1; have J6 : Hid (w6.heap[M]? = some (Obj.cells (mcA P (.slice a l.length c) (k + 1) (q + k) (took + 1 + k + 1) 1073741824 G H) 75 (0, 0)) ∧ w6.heap[G]? = some (Obj.cells #[.int .i64 (q : Int), .int .i64 (-1)] 3 (0, 0)) ∧ Kx [M, G] w w6) := ⟨q1, kx_kind J2.out.1 q2 J2.out.2.1 (by decide), J2.out.2.2.trans q2 (by simp)⟩; clear q1 q2) | (go_at_call 51; refine cb.mono ?_; rintro e w7 ⟨rfl, q7⟩))
        go_ret
        refine ⟨k + 1, q + k, took + 1 + k + 1, q, -1, q7.get J6.out.1 (by simp), by omega, q7.get J6.out.2.1 (by simp), by omega, by omega, J6.out.2.2.trans q7 (by simp), .inr ⟨rfl, ?_⟩⟩
        rintro ⟨g1, g2⟩
        refine hyes ⟨by omega, ?_⟩
        rw [g2 k hlt, JX.out]
    · obtain rfl : k = us.length := by omega
      have JM : Hid (wr.heap[M]? = some (Obj.cells (mcA P (.slice a l.length c) us.length (q + us.length) (took + 1 + us.length) 1073741824 G H) 75 (0, 0))) := hMr
      have JK : Hid (Kx [M, G] w wr) := hK
      have JA : Hid (Here us l q) := ⟨hqk, hall⟩
      have cset := fun m => set_any (w := wr.drewN m) hMr (q : Int) (-1) hGr 1 (by omega) ((q + us.length : Nat) : Int)
      clear hMr hGr hPr hLr hOr hK hall
      go_wp2
      go_quiet (fail)
      go_wp2_with (first | (go_at_call 49; refine (cset _).mono ?_; rintro e w6 ⟨⟨v6, rfl⟩, g6, k6⟩))
      go_ret
      refine ⟨us.length, q + us.length, took + 1 + us.length, q, ((q + us.length : Nat) : Int), k6.get JM.out hMG, Nat.le_refl _, g6, by omega, by omega, (JK.out.drw _).trans k6 (by simp), .inl ⟨rfl, JA.out, rfl, by simp⟩⟩
end Go.Proofs.YtpaaladlddifjaaGreatDoor
