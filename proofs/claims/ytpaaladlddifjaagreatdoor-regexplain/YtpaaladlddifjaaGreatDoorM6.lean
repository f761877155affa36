/- The search: its closure. -/
import Derived.Test.YtpaaladlddifjaaGreatDoorM5
import Derived.Test.YtpaaladlddifjaaGreatDoorF1
set_option linter.unusedVariables false
namespace Go.Proofs.YtpaaladlddifjaaGreatDoor
open Go.RowKit Re

/-- A block that is not one of three. -/
theorem kx_three {w w' : World} {M G C : Nat} {ar br cr : Array Value} (hM : w.heap[M]? = some (Obj.cells ar 75 (0, 0))) (hG : w.heap[G]? = some (Obj.cells br 3 (0, 0))) (hC : w.heap[C]? = some (Obj.cells cr 30 (0, 0))) (k : Kx [M, G, C] w w') {q : Nat} {cur : Array Value} {t : TypeId} {fr : Nat × Nat} (hq : w.heap[q]? = some (Obj.cells cur t fr)) (h1 : t ≠ 75) (h2 : t ≠ 3 ∨ q ≠ G) (h3 : t ≠ 30) : w'.heap[q]? = some (Obj.cells cur t fr) := by
  refine k.get hq (fun hm => ?_)
  simp only [List.mem_cons, List.not_mem_nil, or_false] at hm
  rcases hm with rfl | rfl | rfl
  · rw [hM] at hq
    simp at hq
    exact h1 hq.2.1.symm
  · rcases h2 with h2 | h2
    · rw [hG] at hq
      simp at hq
      exact h2 hq.2.1.symm
    · exact h2 rfl
  · rw [hC] at hq
    simp at hq
    exact h3 hq.2.1.symm
theorem three_kinds {w : World} {M G C : Nat} {ar br cr : Array Value} (hM : w.heap[M]? = some (Obj.cells ar 75 (0, 0))) (hG : w.heap[G]? = some (Obj.cells br 3 (0, 0))) (hC : w.heap[C]? = some (Obj.cells cr 30 (0, 0))) {t : TypeId} (h1 : t ≠ 75) (h2 : t ≠ 3) (h3 : t ≠ 30) : ∀ i ∈ [M, G, C], ∀ cur fr, w.heap[i]? ≠ some (Obj.cells cur t fr) := by
  intro i hi
  simp only [List.mem_cons, List.not_mem_nil, or_false] at hi
  rcases hi with rfl | rfl | rfl
  · exact not_kind hM (Ne.symm h1)
  · exact not_kind hG (Ne.symm h2)
  · exact not_kind hC (Ne.symm h3)
/-- What has been found from a place on, ahead of another. -/
def Got (wr : World) (N : Nat) (us l : List Nat) (first q : Nat) (fv : Value) : Prop :=
  (fv = .slice none 0 0 ∧ ∀ i, first ≤ i → i < q → ¬ Here us l i) ∨
  (∃ i, q = i + 1 ∧ first ≤ i ∧ Here us l i ∧ (∀ j, first ≤ j → j < i → ¬ Here us l j) ∧ wr.ownsRow N 3 1 fv 2 [.int .i64 (i : Int), .int .i64 ((i + us.length : Nat) : Int)])
/-- What the search leaves. -/
def SPost (w w' : World) (M P G H c C first : Nat) (a : Option Addr) (l us : List Nat) : Prop :=
  ∃ (pc p took q : Nat) (fv : Value), w'.heap[M]? = some (Obj.cells (mcA P (.slice a l.length c) pc p took 1073741824 G H) 75 (0, 0)) ∧ w'.heap[C]? = some (Obj.cells #[fv] 30 (0, 0)) ∧ Got w' w.heap.size us l first q fv ∧ (fv = .slice none 0 0 → q = l.length + 1) ∧ Kx [M, G, C] w w'
theorem SPost.mk {w w' : World} {M P G H c C first : Nat} {a : Option Addr} {l us : List Nat} (pc p took q : Nat) (fv : Value) (h1 : w'.heap[M]? = some (Obj.cells (mcA P (.slice a l.length c) pc p took 1073741824 G H) 75 (0, 0))) (h2 : w'.heap[C]? = some (Obj.cells #[fv] 30 (0, 0))) (h3 : Got w' w.heap.size us l first q fv) (h4 : fv = .slice none 0 0 → q = l.length + 1) (h5 : Kx [M, G, C] w w') : SPost w w' M P G H c C first a l us := ⟨pc, p, took, q, fv, h1, h2, h3, h4, h5⟩
set_option maxRecDepth 100000 in
set_option maxHeartbeats 1000000 in
theorem search1_any {w : World} {M P G H c N : Nat} {a : Option Addr} {l us : List Nat} (hu : ∀ u ∈ us, u < 65536) (hn : us.length ≤ 300) (hm : l.length ≤ 2000) (first : Nat) (hfl : first ≤ l.length) (A B C D : Nat)
    (hA : w.heap[A]? = some (Obj.cells #[.int .i64 (first : Int)] 3 (0, 0))) (hB : w.heap[B]? = some (Obj.cells #[.int .i64 (l.length : Int)] 3 (0, 0))) (hC : w.heap[C]? = some (Obj.cells #[.slice none 0 0] 30 (0, 0))) (hD : w.heap[D]? = some (Obj.cells #[.pointer (some ⟨M, 0, none⟩)] 68 (0, 0))) (hAG : A ≠ G) (hBG : B ≠ G)
    (h : w.heap[M]? = some (Obj.cells (mcA P (.slice a l.length c) 0 0 0 1073741824 G H) 75 (0, 0))) (hP : PatIs w N P us) (hl : Lu w a l) (hG : w.heap[G]? = some (Obj.cells #[.int .i64 0, .int .i64 0] 3 (0, 0))) :
    Calls Tryz.prog 27 #[.pointer (some ⟨A, 0, none⟩), .pointer (some ⟨B, 0, none⟩), .pointer (some ⟨C, 0, none⟩), .pointer (some ⟨D, 0, none⟩)] w fun e w' => (∃ v, e = .returned v) ∧ SPost w w' M P G H c C first a l us := by
  have e1 : ∀ w : World, (binOp BinOp.eql 30 (.slice none 0 0) (.slice none 0 0)).run Tryz.prog w = .ok (.bool true) w := fun _ => by kernel_rfl
  have e2 : ∀ (g : Addr) (n cap : Nat) (w : World), (binOp BinOp.eql 30 (.slice (some g) n cap) (.slice none 0 0)).run Tryz.prog w = .ok (.bool false) w := fun _ _ _ _ => by kernel_rfl
  have a0 := cell_at hA 0 rfl
  have HA : Hid (w.heap[A]? = some (Obj.cells #[.int .i64 (first : Int)] 3 (0, 0))) := hA
  have HB : Hid (w.heap[B]? = some (Obj.cells #[.int .i64 (l.length : Int)] 3 (0, 0))) := hB
  have HC : Hid (w.heap[C]? = some (Obj.cells #[.slice none 0 0] 30 (0, 0))) := hC
  have HD : Hid (w.heap[D]? = some (Obj.cells #[.pointer (some ⟨M, 0, none⟩)] 68 (0, 0))) := hD
  have HM : Hid (w.heap[M]? = some (Obj.cells (mcA P (.slice a l.length c) 0 0 0 1073741824 G H) 75 (0, 0))) := h
  have HP : Hid (PatIs w N P us) := hP
  have HL : Hid (Lu w a l) := hl
  have HG : Hid (w.heap[G]? = some (Obj.cells #[.int .i64 0, .int .i64 0] 3 (0, 0))) := hG
  clear hA hB hC hD h hP hl hG
  go_enter Tryz.func27, Tryz.ntmps27
  go_wp2
  go_loopw [4] (fun v wr => ∃ (q pc p took : Nat) (r0 r1 : Int) (fv : Value), first ≤ q ∧ q ≤ l.length + 1 ∧ v = .int .i64 (q : Int) ∧ took ≤ q * 301 ∧ -1 ≤ r0 ∧ -1 ≤ r1 ∧ wr.heap[M]? = some (Obj.cells (mcA P (.slice a l.length c) pc p took 1073741824 G H) 75 (0, 0)) ∧ wr.heap[G]? = some (Obj.cells #[.int .i64 r0, .int .i64 r1] 3 (0, 0)) ∧ wr.heap[C]? = some (Obj.cells #[fv] 30 (0, 0)) ∧ Got wr w.heap.size us l first q fv ∧ Kx [M, G, C] w wr) (fun v _ => l.length + 2 - (intOf v).toNat)
  case atStart => exact ⟨first, 0, 0, 0, 0, 0, _, Nat.le_refl _, by omega, rfl, by omega, by omega, by omega, HM.out, HG.out, HC.out, .inl ⟨rfl, fun i h1 h2 => absurd h2 (by omega)⟩, Kx.refl _ _⟩
  case round =>
    obtain ⟨q, pc, p, took, r0, r1, fv, hq1, hq2, rfl, htk, hr0, hr1, hMr, hGr, hCr, hgot, hK⟩ := hrel
    have b0 : wr.cell? ⟨B, 0, none⟩ = some (.int .i64 (l.length : Int)) := cell_at (kx_three HM.out HG.out HC.out hK HB.out (by decide) (.inr hBG) (by decide)) 0 rfl
    have c0 : wr.cell? ⟨C, 0, none⟩ = some fv := cell_at hCr 0 rfl
    have cf := fr_all hCr
    have hDr := kx_three HM.out HG.out HC.out hK HD.out (by decide) (.inl (by decide)) (by decide)
    have d0 : wr.cell? ⟨D, 0, none⟩ = some (.pointer (some ⟨M, 0, none⟩)) := cell_at hDr 0 rfl
    have hPr : PatIs wr N P us := HP.out.kept hK (fun i hi => ⟨three_kinds HM.out HG.out HC.out (by decide) (by decide) (by decide) i hi, three_kinds HM.out HG.out HC.out (by decide) (by decide) (by decide) i hi⟩)
    have hLr : Lu wr a l := HL.out.kept hK (three_kinds HM.out HG.out HC.out (by decide) (by decide) (by decide))
    have JM : Hid (wr.heap[M]? = some (Obj.cells (mcA P (.slice a l.length c) pc p took 1073741824 G H) 75 (0, 0))) := hMr
    have JC : Hid (wr.heap[C]? = some (Obj.cells #[fv] 30 (0, 0))) := hCr
    have JD : Hid (wr.heap[D]? = some (Obj.cells #[.pointer (some ⟨M, 0, none⟩)] 68 (0, 0))) := hDr
    have JK : Hid (Kx [M, G, C] w wr) := hK
    have JG : Hid (wr.heap[G]? = some (Obj.cells #[.int .i64 r0, .int .i64 r1] 3 (0, 0))) := hGr
    have JP : Hid (PatIs wr N P us) := hPr
    have JO : Hid (Got wr w.heap.size us l first q fv) := hgot
    rcases hgot with ⟨rfl, hno⟩ | ⟨i, rfl, hi1, hi2, hi3, hi4⟩
    · by_cases hlt : q ≤ l.length
      · have ct := try_any hu hn q hlt hm hMr hPr hLr (by omega) r0 r1 hr0 hr1 hGr
        have HN : Hid (∀ i, first ≤ i → i < q → ¬ Here us l i) := hno
        have hlt' : (q : Int) ≤ (l.length : Int) := by omega
        clear hMr hGr hCr hK hDr hPr hLr hno
        go_wp2_with (first | (go_at_call 28; refine ct.mono ?_; rintro e w1 ⟨pc', p', took', r0', r1', t1, t2, t3, t4, t5, t6, t7⟩; have JT : Hid (w1.heap[M]? = some (Obj.cells (mcA P (.slice a l.length c) pc' p' took' 1073741824 G H) 75 (0, 0)) ∧ took' ≤ took + 1 + us.length ∧ w1.heap[G]? = some (Obj.cells #[.int .i64 r0', .int .i64 r1'] 3 (0, 0)) ∧ -1 ≤ r0' ∧ -1 ≤ r1' ∧ Kx [M, G] wr w1) := ⟨t1, t2, t3, t4, t5, t6⟩; have hC1 := t6.get JC.out (fun hm => by (rcases List.mem_cons.1 hm with e | e; (· exact not_kind JM.out (t' := 30) (by decide) _ _ (by rw [← e]; exact JC.out)); (· exact not_kind JG.out (t' := 30) (by decide) _ _ (by rw [← List.mem_singleton.1 e]; exact JC.out)))); have hD1 := kx_two JM.out JG.out t6 JD.out (by decide) (by decide); have dd : w1.cell? ⟨D, 0, none⟩ = some (.pointer (some ⟨M, 0, none⟩)) := cell_at hD1 0 rfl; have JC1 : Hid (w1.heap[C]? = some (Obj.cells #[.slice none 0 0] 30 (0, 0))) := hC1; clear hC1 hD1 t1 t2 t3 t4 t5 t6; rcases t7 with ⟨rfl, hh, rfl, rfl⟩ | ⟨rfl, hh⟩))
        · obtain ⟨t1, t2, t3, t4, t5, t6⟩ := JT.out
          obtain ⟨cv, pp1, pp2⟩ := JP.out
          have hP1 := kx_two JM.out JG.out t6 pp1 (by decide) (by decide)
          refine (found_any t1 hP1 _ _ t3).mono ?_
          rintro e w2 ⟨v, rfl, ho, k2⟩
          have hC2 := k2.get JC1.out (by simp)
          have z0 : w2.cell? ⟨C, 0, none⟩ = some (.slice none 0 0) := cell_at hC2 0 rfl
          have z1 := fr_all hC2
          obtain ⟨g, cap, rfl, hg1, hg2⟩ := ho.form (by omega)
          have hCg : C ≠ g := by have := lt_get JC1.out; omega
          have hkk : Kx [M, G, C] w (w2.setCell ⟨C, 0, none⟩ (.slice (some ⟨g, 0, none⟩) 2 cap)) := (((JK.out.trans t6 (fun i hi => .inl (by simp at hi ⊢; rcases hi with h | h <;> simp [h]))).trans k2 (by simp)).set (by simp) _)
          have hw1 : w.heap.size ≤ w1.heap.size := Nat.le_trans JK.out.size t6.size
          have hM2 := k2.get t1 (by simp)
          have hG2 := k2.get t3 (by simp)
          have hMC : M ∉ [C] := fun hm => not_kind hM2 (t' := 30) (by decide) _ _ (by rw [List.mem_singleton.1 hm]; exact hC2)
          have hGC : G ∉ [C] := fun hm => not_kind hG2 (t' := 30) (by decide) _ _ (by rw [List.mem_singleton.1 hm]; exact hC2)
          have kC : Kx [C] w2 (w2.setCell ⟨C, 0, none⟩ (.slice (some ⟨g, 0, none⟩) 2 cap)) := Kx.setCell _ (by simp) _
          have JF : Hid ((w2.setCell ⟨C, 0, none⟩ (.slice (some ⟨g, 0, none⟩) 2 cap)).heap[M]? = some (Obj.cells (mcA P (.slice a l.length c) pc' p' took' 1073741824 G H) 75 (0, 0)) ∧ (w2.setCell ⟨C, 0, none⟩ (.slice (some ⟨g, 0, none⟩) 2 cap)).heap[G]? = some (Obj.cells #[.int .i64 (q : Int), .int .i64 ((q : Int) + (us.length : Int))] 3 (0, 0)) ∧ (w2.setCell ⟨C, 0, none⟩ (.slice (some ⟨g, 0, none⟩) 2 cap)).heap[C]? = some (Obj.cells #[.slice (some ⟨g, 0, none⟩) 2 cap] 30 (0, 0)) ∧ Got (w2.setCell ⟨C, 0, none⟩ (.slice (some ⟨g, 0, none⟩) 2 cap)) w.heap.size us l first (q + 1) (.slice (some ⟨g, 0, none⟩) 2 cap)) :=
            ⟨kC.get hM2 hMC, kC.get hG2 hGC, heap_put hC2 0 _, .inr ⟨q, rfl, hq1, hh, HN.out, owns_le (kC.owns ho (fun g' hg' hm => by simp [Value.ownBlock] at hg'; subst hg'; exact hCg (List.mem_singleton.1 hm).symm)) hw1⟩⟩
          have HKK : Hid (Kx [M, G, C] w (w2.setCell ⟨C, 0, none⟩ (.slice (some ⟨g, 0, none⟩) 2 cap))) := hkk
          clear hkk kC hM2 hG2 hMC hGC ho k2 hC2 t1 t3 t6 pp1 pp2 hP1
          go_wp2
          go_roundw
          case rel => exact ⟨q + 1, pc', p', took', _, _, _, by omega, by omega, by go_num, by omega, by omega, by omega, JF.out.1, JF.out.2.1, JF.out.2.2.1, JF.out.2.2.2, HKK.out⟩
          case measure => simp [intOf]; omega
        · obtain ⟨t1, t2, t3, t4, t5, t6⟩ := JT.out
          go_roundw
          case rel => exact ⟨q + 1, pc', p', took', r0', r1', _, by omega, by omega, by go_num, by omega, t4, t5, t1, t3, JC1.out, .inl ⟨rfl, fun i h1 h2 => by
            rcases Nat.lt_or_ge i q with h3 | h3
            · exact HN.out i h1 h3
            · obtain rfl : i = q := by omega
              exact hh⟩, JK.out.trans t6 (fun i hi => .inl (by simp at hi ⊢; rcases hi with h | h <;> simp [h]))⟩
          case measure => simp [intOf]; omega
      · have hge : ¬ (q : Int) ≤ (l.length : Int) := by omega
        clear hMr hGr hCr hK hDr hPr hLr hno
        go_wp2
        exact bodyPost_end (results_none rfl _ _ _) rfl ⟨⟨_, rfl⟩, SPost.mk pc p took q _ JM.out JC.out JO.out (fun _ => by omega) JK.out⟩
    · obtain ⟨g, cap, rfl, hg1, hg2⟩ := hi4.form (by omega)
      clear hMr hGr hCr hK hDr hPr hLr hi4
      by_cases hge : ((i + 1 : Nat) : Int) ≤ (l.length : Int)
      · go_wp2
        exact bodyPost_end (results_none rfl _ _ _) rfl ⟨⟨_, rfl⟩, SPost.mk pc p took (i + 1) _ JM.out JC.out JO.out (fun h => by simp at h) JK.out⟩
      · go_wp2
        exact bodyPost_end (results_none rfl _ _ _) rfl ⟨⟨_, rfl⟩, SPost.mk pc p took (i + 1) _ JM.out JC.out JO.out (fun h => by simp at h) JK.out⟩
end Go.Proofs.YtpaaladlddifjaaGreatDoor
