/- Shape.apart, closeGaps where few are gaps. -/
import Derived.Test.YtdnjgemaenhcfaaGreatDoorCHq9x
import Derived.Test.YtdnjgemaenhcfaaGreatDoorCHq4x
import Derived.Test.YtdnjgemaenhcfaaGreatDoorCHt2x
set_option linter.unusedVariables false
namespace Go.Proofs.YtdnjgemaenhcfaaGreatDoor
open Go.RowKit Go.Shelf Go.Maps

set_option maxRecDepth 100000 in
set_option maxHeartbeats 2000000 in
theorem apart_any (S N : Nat) (v m k fr nx kp : Value) (L : List ByteArray) (cnt : Nat) (w : World)
    (hS : w.heap[S]? = some (.cells #[.pointer (some ⟨N, 0, none⟩), .int .i64 (cnt : Int), fr, nx, .bool false, kp] 118 (0, 0)))
    (hN : w.heap[N]? = some (.cells #[v, m, k] 121 (0, 0))) (hrow : w.ownsRow 0 9 1 v L.length (L.map Value.string)) (hc : cnt ≤ L.length) (hL : L.length ≤ 1000) (hs : ∀ s ∈ L, s.size ≤ maxLen) :
    Calls Tryz.prog 82 #[.pointer (some ⟨S, 0, none⟩)] w fun e w' => ∃ S' N' M' v', e = .returned (.pointer (some ⟨S', 0, none⟩)) ∧ w.heap.size ≤ S' ∧ w.heap.size ≤ N' ∧ w.heap.size ≤ M' ∧ w'.heap[S']? = some (.cells #[.pointer (some ⟨N', 0, none⟩), .int .i64 (cnt : Int), .pointer none, .map none, .bool true, .bool false] 118 (0, 0)) ∧ NamesAt w' w.heap.size N' M' cnt v' (.int .i64 0) (L.take cnt) ∧ Kx [] w w' := by
  have cP : ∀ W, Kx [] w W → Calls Tryz.prog 112 #[.pointer (some ⟨N, 0, none⟩), .int .i64 (cnt : Int)] W fun e w' => ∃ N' M' v', e = .returned (.pointer (some ⟨N', 0, none⟩)) ∧ W.heap.size ≤ N' ∧ W.heap.size ≤ M' ∧ w'.heap[N']? = some (.cells #[v', .map (some M'), .int .i64 0] 121 (0, 0)) ∧ w'.ownsRow W.heap.size 9 1 v' cnt ((L.take cnt).map Value.string) ∧ IMap w' M' cnt (pf (L.take cnt)) ∧ Below W.heap.size W w' := fun W hW => part_any N v m k L cnt W 0 (hW.get hN (by simp)) (hW.owns hrow (fun g hg => by simp)) hc hL hs
  have CP := (show Hid _ from cP)
  have c0 := cell_at hS 0 rfl
  have c1 := cell_at hS 1 rfl
  have c4 := cell_at hS 4 rfl
  clear cP hN hrow hS
  go_enter Tryz.func82, Tryz.ntmps82
  go_wp2
  go_region_law (first | (go_simp; go_at_call 112; refine (CP.out _ (Kx.drew _ _)).mono ?_; rintro e w1 ⟨N', M', v', rfl, g1, g2, g3, g4, g5, g6⟩; obtain ⟨a1, c5, rfl⟩ := owns_slice g4; have cA := alone_any N' cnt c5 a1 _ _ w1 g3; have HG : Hid (w.heap.size ≤ N' ∧ w.heap.size ≤ M' ∧ NamesAt w1 w.heap.size N' M' cnt (.slice a1 cnt c5) (.int .i64 0) (L.take cnt) ∧ Kx [] w w1) := (show _ ∧ _ ∧ _ ∧ _ from ⟨g1, g2, ⟨g3, by rw [List.length_take, Nat.min_eq_left hc]; exact g4, g5⟩, (Kx.drew [] w).same (Kx.ofBelow g6 [])⟩); clear g1 g2 g3 g4 g5 g6) | (go_simp; go_at_call 110; refine cA.mono ?_; rintro e w2 ⟨rfl, rfl⟩))
  all_goals
    go_wp2
    go_ret
    obtain ⟨g1, g2, g3, g4⟩ := HG.out
    exact ⟨w1.heap.size, N', M', _, rfl, g4.size, g1, g2, heap_alloc_new _ _, g3.kept (Kx.alloc [] _ _) (by simp) (by simp) (by simp), g4.alc _⟩
set_option maxRecDepth 100000 in
set_option maxHeartbeats 2000000 in
theorem gaps_few (b S N M n cnt : Nat) (a : Option Addr) (c : Nat) (k ct fr nx al kp cl pr fx inn num nv rw st kp2 : Value) (es : Array MapEntry) (clock : Nat) (w : World)
    (hB : w.heap[b]? = some (.cells #[cl, pr, fx, inn, num, .pointer (some ⟨S, 0, none⟩), nv, rw, st, kp2] 111 (0, 0)))
    (hS : w.heap[S]? = some (.cells #[.pointer (some ⟨N, 0, none⟩), ct, fr, nx, al, kp] 118 (0, 0)))
    (hN : w.heap[N]? = some (.cells #[.slice a cnt c, .map (some M), k] 121 (0, 0))) (hM : w.heap[M]? = some (.map es clock)) (h1 : cnt ≤ 1000) (h2 : es.size ≤ 1000) (h3 : cnt ≤ 2 * es.size + 8) :
    Calls Tryz.prog 105 #[.pointer (some ⟨b, 0, none⟩)] w fun e w' => (∃ u, e = .returned u) ∧ ∃ q, w' = w.drewN q := by
  have b5 := cell_at hB 5 rfl
  have s0 := cell_at hS 0 rfl
  have n0 := cell_at hN 0 rfl
  have n1 := cell_at hN 1 rfl
  have hl : ∀ q, (Builtin.len_ #[119] 3 #[.map (some M)]).run Tryz.prog (w.drewN q) = .ok (.int .i64 (es.size : Int)) (w.drewN q) := fun q => run_len_map _ _ _ _ _ _ (by rw [Tryz.underlying119]; rfl) (show (w.drewN q).heap[M]? = _ from hM)
  have v1 : IntKind.i64.wrap (2 * (es.size : Int)) = 2 * (es.size : Int) := by rw [IntKind.wrap_i64]; omega
  have v2 : IntKind.i64.wrap (2 * (es.size : Int) + 8) = 2 * (es.size : Int) + 8 := by rw [IntKind.wrap_i64]; omega
  have hle : (cnt : Int) ≤ 2 * (es.size : Int) + 8 := by omega
  clear hB hS hN hM
  go_enter Tryz.func105, Tryz.ntmps105
  go_wp2
  go_quiet (fail)
  go_wp2
  refine bodyPost_ret (results_none rfl _ _ _) rfl ?_
  exact ⟨⟨_, rfl⟩, _, rfl⟩
end Go.Proofs.YtdnjgemaenhcfaaGreatDoor
/- Object.remove of a name. -/
set_option linter.unusedVariables false
namespace Go.Proofs.YtdnjgemaenhcfaaGreatDoor
open Go.RowKit Go.Shelf Go.Maps
attribute [local go_sem] run_store_flt

theorem filter_ne_len (nm : ByteArray) : ∀ (L : List ByteArray), L.Nodup → L.length ≤ (L.filter (fun t => decide (t ≠ nm))).length + 1
  | [], _ => by simp
  | x :: l, h => by
    have h1 := List.nodup_cons.1 h
    by_cases e : x = nm
    · have : l.filter (fun t => decide (t ≠ nm)) = l := List.filter_eq_self.2 (fun t ht => by
        simp
        intro e2
        exact h1.1 (by rw [e, ← e2]; exact ht))
      rw [List.filter_cons_of_neg (by simp [e]), this]
      simp
    · rw [List.filter_cons_of_pos (by simp [e])]
      have := filter_ne_len nm l h1.2
      simp only [List.length_cons]
      omega
set_option maxRecDepth 100000 in
set_option maxHeartbeats 2000000 in
theorem remove_name (b S i n g cap cnt : Nat) (nm : ByteArray) (pl : Int) (cl pr fx inn num rw st kp : Value) (xs : List Value) (L : List ByteArray) (w : World)
    (hB : w.heap[b]? = some (.cells #[cl, pr, fx, inn, num, .pointer (some ⟨S, 0, none⟩), .slice (some ⟨g, 0, none⟩) n cap, rw, st, kp] 111 (0, 0)))
    (hrow : w.ownsRow 0 75 10 (.slice (some ⟨g, 0, none⟩) n cap) n xs) (hi : i < n) (hn : n ≤ 1000) (hnm : nm.size ≤ maxLen) (hL : L.Nodup) (hLs : ∀ x ∈ L, x.size ≤ maxLen) (hLc : L.length = cnt) (hcn : cnt ≤ 1000)
    (cf : ∀ W, Kx [] w W → Calls Tryz.prog 49 #[.pointer (some ⟨S, 0, none⟩), .string nm] W fun e w' => e = .returned (.tuple #[.int .i64 (i : Int), .bool true]) ∧ ∃ q, w' = W.drewN q)
    (ca : ∀ W, Kx [] w W → Calls Tryz.prog 82 #[.pointer (some ⟨S, 0, none⟩)] W fun e w' => ∃ S' N' M' v', e = .returned (.pointer (some ⟨S', 0, none⟩)) ∧ W.heap.size ≤ S' ∧ W.heap.size ≤ N' ∧ W.heap.size ≤ M' ∧ w'.heap[S']? = some (.cells #[.pointer (some ⟨N', 0, none⟩), .int .i64 (cnt : Int), .pointer none, .map none, .bool true, .bool false] 118 (0, 0)) ∧ NamesAt w' W.heap.size N' M' cnt v' (.int .i64 0) L ∧ Kx [] W w') :
    Calls Tryz.prog 78 #[.pointer (some ⟨b, 0, none⟩), .agg #[.string nm, .int .u32 pl, .bool false]] w fun e w' => (∃ u, e = .returned u) ∧ ∃ S' C', w.heap.size ≤ S' ∧ w'.heap[b]? = some (.cells #[cl, pr, fx, inn, num, .pointer (some ⟨S', 0, none⟩), .slice (some ⟨g, 0, none⟩) n cap, rw, st, kp] 111 (0, 0)) ∧ w'.heap[S']? = some (.cells C' 118 (0, 0)) ∧ C'[4]? = some (.bool true) ∧ Kx [b, g] w w' := by
  obtain ⟨W0, hW0⟩ : ∃ W0, W0 = w.alloc (Obj.cells #[.string nm, .int .u32 pl, .bool false] 67) := ⟨_, rfl⟩
  have hk0 : Kx [] w W0 := by rw [hW0]; exact Kx.alloc _ _ _
  have hB0 := hk0.get hB (by simp)
  have hK0 : W0.heap[w.heap.size]? = some (Obj.cells #[.string nm, .int .u32 pl, .bool false] 67 (0, 0)) := by rw [hW0]; exact heap_alloc_new _ _
  have hbl := lt_get hB
  have HB0 := (show Hid _ from hB0)
  have HK0 := (show Hid _ from hK0)
  have HKX : Hid (Kx [] w W0) := (show Kx [] w W0 from hk0)
  have HRWB : Hid (w.heap[b]? = some (.cells #[cl, pr, fx, inn, num, .pointer (some ⟨S, 0, none⟩), .slice (some ⟨g, 0, none⟩) n cap, rw, st, kp] 111 (0, 0))) := hB
  have CF := (show Hid _ from cf)
  have CA := (show Hid _ from ca)
  have HRW : Hid (w.ownsRow 0 75 10 (.slice (some ⟨g, 0, none⟩) n cap) n xs) := hrow
  have HLL := (show Hid _ from And.intro hL hLs)
  have b5 := cell_at hB0 5 rfl
  have k0 := cell_at hK0 0 rfl
  have k2 := cell_at hK0 2 rfl
  rw [hW0] at b5 k0 k2
  clear hB hB0 hK0 hk0 cf ca hrow hL hLs
  go_enter Tryz.func78, Tryz.ntmps78
  go_wp2
  rw [← hW0] at b5 k0 k2 ⊢
  clear hW0
  go_quiet (first | (go_at_call 49; exact Calls.quiet_of (CF.out _ (HKX.out.drw _))))
  have HB1 : Hid ((W0.drewN nq).heap[b]? = some (.cells #[cl, pr, fx, inn, num, .pointer (some ⟨S, 0, none⟩), .slice (some ⟨g, 0, none⟩) n cap, rw, st, kp] 111 (0, 0))) := HB0
  have HK1 : Hid ((W0.drewN nq).heap[w.heap.size]? = some (Obj.cells #[.string nm, .int .u32 pl, .bool false] 67 (0, 0))) := HK0
  have HW1 : Hid (Kx [] w (W0.drewN nq)) := (show Kx [] w (W0.drewN nq) from HKX.out.drw nq)
  clear b5 k0 k2 HB0 HK0 HKX CF
  obtain ⟨w1, hw1⟩ : ∃ w1, w1 = W0.drewN nq := ⟨_, rfl⟩
  rw [← hw1] at HB1 HK1 HW1 ⊢
  clear hw1
  have b5 := cell_at HB1.out 5 rfl
  go_wp2_with (first | (go_at_call 82; fail))
  refine (CA.out w1 HW1.out).mono ?_
  rintro e w2 ⟨S', N', M', v', rfl, g1, g2, g3, g4, g5, g6⟩
  have hsz := HW1.out.size
  have hB2 := g6.get HB1.out (by simp)
  have HK2 : Hid (w2.heap[w.heap.size]? = some (Obj.cells #[.string nm, .int .u32 pl, .bool false] 67 (0, 0))) := g6.get HK1.out (by simp)
  have HW2 : Hid (Kx [] w w2) := (show Kx [] w w2 from HW1.out.same g6)
  have hltk := lt_get HK1.out
  have z5 := cell_at hB2 5 rfl
  have y5 := fr_all hB2 5
  obtain ⟨W3, hW3⟩ : ∃ W3, W3 = w2.setCell ⟨b, 5, none⟩ (.pointer (some ⟨S', 0, none⟩)) := ⟨_, rfl⟩
  have hk3 : Kx [b] w2 W3 := by rw [hW3]; exact Kx.setCell _ (by simp) _
  have HB3 : Hid (W3.heap[b]? = some (.cells #[cl, pr, fx, inn, num, .pointer (some ⟨S', 0, none⟩), .slice (some ⟨g, 0, none⟩) n cap, rw, st, kp] 111 (0, 0))) := by rw [hW3]; exact heap_set_at hB2 5 _ rfl
  have HS3 : Hid (W3.heap[S']? = some (.cells #[.pointer (some ⟨N', 0, none⟩), .int .i64 (cnt : Int), .pointer none, .map none, .bool true, .bool false] 118 (0, 0))) := hk3.get g4 (by simp; omega)
  have HN3 : Hid (NamesAt W3 w1.heap.size N' M' cnt v' (.int .i64 0) L) := g5.kept hk3 (by simp; omega) (by simp; omega) (fun q hq => by have := (g5.2.1.lt q hq).1; simp; omega)
  have HK3 : Hid (W3.heap[w.heap.size]? = some (Obj.cells #[.string nm, .int .u32 pl, .bool false] 67 (0, 0))) := hk3.get HK2.out (by simp; omega)
  have HW3 : Hid (Kx [b] w W3) := (show Kx [b] w W3 from (HW2.out.mono (fun i hi => by cases hi)).same hk3)
  have HG : Hid (w.heap.size ≤ S' ∧ b < w.heap.size ∧ w.heap.size ≤ M' ∧ w.heap.size ≤ N') := (show _ ∧ _ ∧ _ ∧ _ from ⟨by omega, hbl, by omega, by omega⟩)
  clear g1 g2 g3 g4 g5 g6 hB2 hk3 HB1 HK1 HW1 CA b5 HK2 HW2
  go_wp2
  rw [← hW3]
  clear hW3 z5 y5
  obtain ⟨w4, hdel, hm4, hg4⟩ := imap_drop (w := W3.drew) (show IMap W3.drew M' cnt (pf L) from HN3.out.2.2) nm hnm 0
  have hk4 : Kx [M'] W3 w4 := (Kx.drew [M'] W3).trans (Kx.grown hg4) (fun i hi => .inl (by simp at hi; simp [hi]))
  have hMb : b ≠ M' := imap_cells HN3.out.2.2 HB3.out
  have hMS : S' ≠ M' := imap_cells HN3.out.2.2 HS3.out
  have hMN : N' ≠ M' := imap_cells HN3.out.2.2 HN3.out.1
  have hMK : w.heap.size ≠ M' := imap_cells HN3.out.2.2 HK3.out
  have HB4 : Hid (w4.heap[b]? = some (.cells #[cl, pr, fx, inn, num, .pointer (some ⟨S', 0, none⟩), .slice (some ⟨g, 0, none⟩) n cap, rw, st, kp] 111 (0, 0))) := hk4.get HB3.out (by simp; exact hMb)
  have HS4 : Hid (w4.heap[S']? = some (.cells #[.pointer (some ⟨N', 0, none⟩), .int .i64 (cnt : Int), .pointer none, .map none, .bool true, .bool false] 118 (0, 0))) := hk4.get HS3.out (by simp; exact hMS)
  have HN4 : Hid (w4.heap[N']? = some (.cells #[v', .map (some M'), .int .i64 0] 121 (0, 0))) := hk4.get HN3.out.1 (by simp; exact hMN)
  have HK4 := hk4.get HK3.out (by simp; exact hMK)
  have a0 := cell_at HB3.out 5 rfl
  have a1 := cell_at HS3.out 0 rfl
  have a2 := cell_at HN3.out.1 1 rfl
  have a3 := cell_at HK3.out 0 rfl
  have b0 := cell_at HB4.out 5 rfl
  have b1 := cell_at HS4.out 0 rfl
  have b2 := cell_at HN4.out 1 rfl
  have b3 := cell_at HK4 0 rfl
  have HM4 := (show Hid _ from hm4)
  have HK34 : Hid (Kx [M'] W3 w4) := (show Kx [M'] W3 w4 from hk4)
  clear hm4 hg4 hk4 HK4 hMb hMS hMN hMK
  go_region_held3 (fun Z : World => Z.cell? ⟨b, 5, none⟩ = some (.pointer (some ⟨S', 0, none⟩)) ∧ Z.cell? ⟨S', 0, none⟩ = some (.pointer (some ⟨N', 0, none⟩)) ∧ Z.cell? ⟨N', 1, none⟩ = some (.map (some M')) ∧ Z.cell? ⟨w.heap.size, 0, none⟩ = some (.string nm)) (first | exact ⟨a0, a1, a2, a3⟩ | exact ⟨b0, b1, b2, b3⟩) (fail)
  clear a0 a1 a2 a3 b0 b1 b2 b3 hdel
  obtain ⟨cur, hgw, hcz⟩ : ∃ cur, w.heap[g]? = some (.cells cur 75 (0, 0)) ∧ n * 10 ≤ cur.size := by
    rcases HRW.out.2 with ⟨e, h0⟩ | ⟨g', cap', cur, e, _, hgg, h1, _, h2, _⟩
    · cases e
    · simp only [Value.slice.injEq, Option.some.injEq, Addr.mk.injEq] at e
      obtain ⟨⟨rfl, _⟩, _, rfl⟩ := e
      exact ⟨cur, hgg, by omega⟩
  have hgl := lt_get hgw
  have hgM : g ≠ M' := by have := HG.out.2.2.1; omega
  have hbg : b ≠ g := by
    intro e
    have h1 := HW3.out.block g hgl
    have h2 := HB3.out
    by_cases hb2 : g ∈ [b]
    · simp at hb2
      have h3 := HRWB.out
      rw [e, hgw] at h3
      simp at h3
    · exact hb2 (by simp [e])
  have hg4 : w4.heap[g]? = some (.cells cur 75 (0, 0)) := HK34.out.get (HW3.out.get hgw (by simp; exact fun e => hbg e.symm)) (by simp; exact hgM)
  have hcell : ∀ j, j < n * 10 → ∃ u, w4.cell? ⟨g, j, none⟩ = some u := fun j hj => ⟨cur[j]'(by omega), cell_at hg4 j (Array.getElem?_eq_getElem _)⟩
  obtain ⟨c0, e0⟩ := hcell (i * 10) (by omega)
  have f0 := fr_all hg4 (i * 10)
  obtain ⟨c1, e1⟩ := hcell (i * 10 + 1) (by omega)
  have f1 := fr_all hg4 (i * 10 + 1)
  obtain ⟨c2, e2⟩ := hcell (i * 10 + 2) (by omega)
  have f2 := fr_all hg4 (i * 10 + 2)
  obtain ⟨c3, e3⟩ := hcell (i * 10 + 3) (by omega)
  have f3 := fr_all hg4 (i * 10 + 3)
  obtain ⟨c4, e4⟩ := hcell (i * 10 + 4) (by omega)
  have f4 := fr_all hg4 (i * 10 + 4)
  obtain ⟨c5, e5⟩ := hcell (i * 10 + 5) (by omega)
  have f5 := fr_all hg4 (i * 10 + 5)
  obtain ⟨c6, e6⟩ := hcell (i * 10 + 6) (by omega)
  have f6 := fr_all hg4 (i * 10 + 6)
  obtain ⟨c7, e7⟩ := hcell (i * 10 + 7) (by omega)
  have f7 := fr_all hg4 (i * 10 + 7)
  obtain ⟨c8, e8⟩ := hcell (i * 10 + 8) (by omega)
  have f8 := fr_all hg4 (i * 10 + 8)
  obtain ⟨c9, e9⟩ := hcell (i * 10 + 9) (by omega)
  have f9 := fr_all hg4 (i * 10 + 9)
  have b6 := cell_at HB4.out 6 rfl
  obtain ⟨w5, hw5⟩ : ∃ w5, w5 = ((((((((((w4.setCell ⟨g, i * 10, none⟩ (.bool false)).setCell ⟨g, i * 10 + 1, none⟩ (.bool false)).setCell ⟨g, i * 10 + 2, none⟩ (.bool false)).setCell ⟨g, i * 10 + 3, none⟩ (.bool false)).setCell ⟨g, i * 10 + 4, none⟩ (.int .i64 0)).setCell ⟨g, i * 10 + 5, none⟩ (.float .f64 0)).setCell ⟨g, i * 10 + 6, none⟩ (.string ⟨#[]⟩)).setCell ⟨g, i * 10 + 7, none⟩ (.pointer none)).setCell ⟨g, i * 10 + 8, none⟩ (.pointer none)).setCell ⟨g, i * 10 + 9, none⟩ (.pointer none)) := ⟨_, rfl⟩
  have hk5 : Kx [g] w4 w5 := by rw [hw5]; exact (((((((((((Kx.refl [g] w4).set (by simp) _).set (by simp) _).set (by simp) _).set (by simp) _).set (by simp) _).set (by simp) _).set (by simp) _).set (by simp) _).set (by simp) _).set (by simp) _)
  have HK5 : Hid (Kx [g] w4 w5) := (show Kx [g] w4 w5 from hk5)
  have HBG : Hid (b ≠ g) := (show b ≠ g from hbg)
  clear hcell hg4 hk5 hgw hcz hbg hgM
  go_wp2_with (first | (go_at_call 105; fail))
  rw [← hw5]
  clear hw5 e0 f0 e1 f1 e2 f2 e3 f3 e4 f4 e5 f5 e6 f6 e7 f7 e8 f8 e9 f9 b6
  have hgM : g ≠ M' := by have := HG.out.2.2.1; omega
  have hgN : g ≠ N' := by have := HG.out.2.2.2; omega
  have hgS : g ≠ S' := by have := HG.out.1; omega
  have hB5 := HK5.out.get HB4.out (by simp; exact HBG.out)
  have hS5 := HK5.out.get HS4.out (by simp; exact fun e => hgS e.symm)
  have hN5 := HK5.out.get HN4.out (by simp; exact fun e => hgN e.symm)
  have hM5 := HK5.out.imap HM4.out (by simp; exact fun e => hgM e.symm)
  obtain ⟨es, clock, hes, hz1, hz2⟩ := imap_size hM5 (L.filter (fun t => decide (t ≠ nm))) (HLL.out.1.filter _) (fun x hx => HLL.out.2 x (List.mem_filter.1 hx).1) (fun x hx => by
    have h1 := List.mem_filter.1 hx
    have h2 : x ≠ nm := by simpa using h1.2
    obtain ⟨q, hq⟩ := List.getElem?_of_mem h1.1
    simp only [if_neg h2, (pf_get _ L rfl HLL.out.1 x q).2 hq]
    simp)
  have hz3 := filter_ne_len nm L HLL.out.1
  obtain ⟨a5, c5, hv5⟩ := owns_slice HN3.out.2.1
  rw [hv5, hLc] at hN5
  have cG := gaps_few b S' N' M' cnt cnt a5 c5 _ _ _ _ _ _ _ _ _ _ _ _ _ _ _ es clock w5 hB5 hS5 hN5 hes hcn (by omega) (by omega)
  have HH : Hid (w5.heap[b]? = some (.cells #[cl, pr, fx, inn, num, .pointer (some ⟨S', 0, none⟩), .slice (some ⟨g, 0, none⟩) n cap, rw, st, kp] 111 (0, 0)) ∧ w5.heap[S']? = some (.cells #[.pointer (some ⟨N', 0, none⟩), .int .i64 (cnt : Int), .pointer none, .map none, .bool true, .bool false] 118 (0, 0)) ∧ Kx [b, g] w w5) := (show _ ∧ _ ∧ _ from ⟨hB5, hS5, ((HW3.out.mono (S := [b, g]) (fun i hi => .inl (by simp at hi; simp [hi]))).trans HK34.out (fun i hi => .inr (by simp at hi; have := HG.out.2.2.1; omega))).trans HK5.out (fun i hi => .inl (by simp at hi; simp [hi]))⟩)
  clear hB5 hS5 hN5 hM5 hes hv5
  refine cG.mono ?_
  rintro e w6 ⟨⟨u, rfl⟩, qq, rfl⟩
  go_wp2
  refine bodyPost_end (results_none rfl _ _ _) rfl ?_
  exact ⟨⟨_, rfl⟩, S', _, HG.out.1, HH.out.1, HH.out.2.1, rfl, HH.out.2.2.drw qq⟩
end Go.Proofs.YtdnjgemaenhcfaaGreatDoor
/- Delete of a name. -/
set_option linter.unusedVariables false
namespace Go.Proofs.YtdnjgemaenhcfaaGreatDoor
open Go.RowKit Go.Shelf Go.Maps
attribute [local go_sem] run_store_flt

set_option maxRecDepth 100000 in
set_option maxHeartbeats 2000000 in
theorem delete_obj (b : Nat) (nm : ByteArray) (pl : Int) (p0 p1 : Bool) (k : Int) (x : Nat) (tx : ByteArray) (p7 p8 p9 : Option Addr) (R : World → Prop) (w : World)
    (cO : ∀ W, Kx [] w W → Calls Tryz.prog 25 #[.pointer (some ⟨b, 0, none⟩), .agg #[.string nm, .int .u32 pl, .bool false]] W fun e w' => e = .returned (.tuple #[.agg #[.bool p0, .bool p1, .bool true, .bool false, .int .i64 k, .float .f64 x, .string tx, .pointer p7, .pointer p8, .pointer p9], .bool true]) ∧ Kx [] W w')
    (cR : ∀ W, Kx [] w W → Calls Tryz.prog 78 #[.pointer (some ⟨b, 0, none⟩), .agg #[.string nm, .int .u32 pl, .bool false]] W fun e w' => (∃ u, e = .returned u) ∧ R w') :
    Calls Tryz.prog 54 #[.pointer (some ⟨b, 0, none⟩), .agg #[.string nm, .int .u32 pl, .bool false]] w fun e w' => e = .returned .nilIface ∧ R w' := by
  obtain ⟨W0, hW0⟩ : ∃ W0, W0 = w.alloc (Obj.cells #[.string nm, .int .u32 pl, .bool false] 67) := ⟨_, rfl⟩
  have HK0 : Hid (Kx [] w W0) := by rw [hW0]; exact (show Kx [] w _ from Kx.alloc _ _ _)
  have HB0 : Hid (W0.heap[w.heap.size]? = some (Obj.cells #[.string nm, .int .u32 pl, .bool false] 67 (0, 0))) := by rw [hW0]; exact heap_alloc_new _ _
  have CO := (show Hid _ from cO)
  have CR := (show Hid _ from cR)
  clear cO cR
  go_enter Tryz.func54, Tryz.ntmps54
  go_wp2_with (first | (go_at_call 25; fail))
  rw [← hW0]
  clear hW0
  refine (CO.out W0 HK0.out).mono ?_
  rintro e w1 ⟨rfl, hk1⟩
  obtain ⟨W1, hW1⟩ : ∃ W1, W1 = w1.alloc (Obj.cells #[.bool p0, .bool p1, .bool true, .bool false, .int .i64 k, .float .f64 x, .string tx, .pointer p7, .pointer p8, .pointer p9] 75) := ⟨_, rfl⟩
  have HK1 : Hid (Kx [] w W1) := by rw [hW1]; exact (show Kx [] w _ from (HK0.out.same hk1).alc _)
  have HB1 : Hid (W1.heap[w.heap.size]? = some (Obj.cells #[.string nm, .int .u32 pl, .bool false] 67 (0, 0))) := by rw [hW1]; exact heap_old (hk1.get HB0.out (by simp)) _
  have y0 := cell_at HB1.out 0 rfl
  have y1 := cell_at HB1.out 1 rfl
  have y2 := cell_at HB1.out 2 rfl
  rw [hW1] at y0 y1 y2
  clear hk1 HB0 HK0 CO
  go_wp2_with (first | (go_at_call 78; fail))
  rw [← hW1]
  refine (CR.out W1 HK1.out).mono ?_
  rintro e w2 ⟨⟨u, rfl⟩, hR⟩
  have HR := (show Hid (R w2) from hR)
  clear y0 y1 y2 hW1 HK1 HB1 CR hR
  go_wp2
  go_ret
  exact ⟨rfl, HR.out⟩
set_option maxRecDepth 100000 in
set_option maxHeartbeats 2000000 in
theorem delete_face (O H b : Nat) (l : List Nat) (r : Int) (s nm : ByteArray) (pl : Int) (isP : Bool) (R : World → Prop) (w : World)
    (hO : w.cell? ⟨O, 0, none⟩ = some (.pointer (some ⟨H, 0, none⟩))) (hH : Objs w H l) (hr1 : 1 ≤ r) (hr : l[(r - 1).toNat]? = some b)
    (cK : ∀ W, Kx [] w W → Calls Tryz.prog 26 #[.string s] W fun e w' => e = .returned (.agg #[.string nm, .int .u32 pl, .bool isP]) ∧ Kx [] W w')
    (cD : ∀ W, Kx [] w W → Calls Tryz.prog 54 #[.pointer (some ⟨b, 0, none⟩), .agg #[.string nm, .int .u32 pl, .bool isP]] W fun e w' => e = .returned .nilIface ∧ R w') :
    Calls Tryz.prog 28 #[.pointer (some ⟨O, 0, none⟩), .int .i64 r, .string s] w fun e w' => e = .returned .nilIface ∧ R w' := by
  have c1 := numbered_any H l r w hH
  rw [objP_hit hr1 hr] at c1
  have CK := (show Hid _ from cK)
  have CD := (show Hid _ from cD)
  clear cK cD hH hr1 hr
  go_enter Tryz.func28, Tryz.ntmps28
  go_wp2_with (first | (go_at_call 21; refine c1.mono ?_; rintro e w1 ⟨rfl, rfl⟩) | (go_at_call 26; refine (CK.out _ (Kx.refl _ _)).mono ?_; rintro e w2 ⟨rfl, hk⟩) | (go_at_call 54; refine (CD.out _ hk).mono ?_; rintro e w3 ⟨rfl, hR⟩))
  go_ret
  exact ⟨rfl, hR⟩
set_option maxRecDepth 100000 in
set_option maxHeartbeats 2000000 in
theorem delete_plain (O : Nat) (r : Int) (s : ByteArray) (R : World → Prop) (w : World)
    (cD : Calls Tryz.prog 28 #[.pointer (some ⟨O, 0, none⟩), .int .i64 r, .string s] w fun e w' => e = .returned .nilIface ∧ R w') :
    Calls Tryz.prog 12 #[.pointer (some ⟨O, 0, none⟩), .int .i64 r, .string s] w fun e w' => e = .returned (.int .i64 0) ∧ ∃ W, R W ∧ Kx [] W w' := by
  have c2 := number_nil
  go_enter Tryz.func12, Tryz.ntmps12
  go_wp2_with (first | (go_at_call 28; refine cD.mono ?_; rintro e w1 ⟨rfl, hR⟩) | (go_at_call 19; refine (c2 _).mono ?_; rintro e w2 ⟨rfl, hk⟩))
  go_ret
  exact ⟨rfl, w1, hR, hk⟩
end Go.Proofs.YtdnjgemaenhcfaaGreatDoor
/- A value that is told by numbers. -/
set_option linter.unusedVariables false
namespace Go.Proofs.YtdnjgemaenhcfaaGreatDoor
open Go.RowKit Go.Shelf Go.Maps

attribute [local go_sem] run_store_flt
set_option maxRecDepth 100000 in
set_option maxHeartbeats 2000000 in
theorem value_num (O x : Nat) (tx : ByteArray) (rf : Int) (w : World) :
    Calls Tryz.prog 61 #[.pointer (some ⟨O, 0, none⟩), .agg #[.int .i64 3, .float .f64 x, .string tx, .int .i64 rf]] w fun e w' => e = .returned (.tuple #[.agg #[.int .i64 3, .float .f64 x, .string ⟨#[]⟩, .pointer none], .bool true]) ∧ Kx [] w w' := by
  go_enter Tryz.func61, Tryz.ntmps61
  go_wp2
  refine bodyPost_ret (results_row_tmp rfl _ _ (w.heap.size + 1) 73 _ (0, 0) _ rfl (heap_old (heap_alloc2_new _ _ _) _) Tryz.underlying73 rfl (by kernel_rfl) _ rfl) rfl ?_
  exact ⟨rfl, ((Kx.alloc _ _ _).alc _).alc _⟩

set_option maxRecDepth 100000 in
set_option maxHeartbeats 2000000 in
theorem value_txt (O x : Nat) (tx : ByteArray) (htx : tx.size ≤ 2000000) (rf : Int) (w : World) (hT : Lib.Utf8Tabs 2 3 w) :
    Calls Tryz.prog 61 #[.pointer (some ⟨O, 0, none⟩), .agg #[.int .i64 4, .float .f64 x, .string tx, .int .i64 rf]] w fun e w' => e = .returned (.tuple #[.agg #[.int .i64 4, .float .f64 0, .string (txt (unitsS tx)), .pointer none], .bool true]) ∧ Kx [] w w' := by
  obtain ⟨W0, hW0⟩ : ∃ W0, W0 = ((w.alloc (Obj.cells #[.int .i64 4, .float .f64 x, .string tx, .int .i64 rf] 32)).alloc (Obj.cells #[.int .i64 0, .float .f64 0, .string ⟨#[]⟩, .pointer none] 73)).alloc (Obj.cells #[.int .i64 4, .float .f64 0, .string ⟨#[]⟩, .pointer none] 73) := ⟨_, rfl⟩
  have hk : Kx [] w W0 := by rw [hW0]; exact (show Kx [] w _ from ((Kx.alloc _ _ _).alc _).alc _)
  have hR : W0.heap[w.heap.size + 1]? = some (Obj.cells #[.int .i64 0, .float .f64 0, .string ⟨#[]⟩, .pointer none] 73 (0, 0)) := by rw [hW0]; exact heap_old (heap_alloc2_new _ _ _) _
  have hV : W0.heap[w.heap.size + 1 + 1]? = some (Obj.cells #[.int .i64 4, .float .f64 0, .string ⟨#[]⟩, .pointer none] 73 (0, 0)) := by
    have e : w.heap.size + 1 + 1 = ((w.alloc (Obj.cells #[.int .i64 4, .float .f64 x, .string tx, .int .i64 rf] 32)).alloc (Obj.cells #[.int .i64 0, .float .f64 0, .string ⟨#[]⟩, .pointer none] 73)).heap.size := by simp
    rw [hW0, e]; exact heap_alloc_new _ _
  have c := textOf_any tx htx W0 (tabs_below hT (hk.below (Nat.le_refl _) (by simp)))
  generalize txt (unitsS tx) = D at *
  have C := (show Hid (∀ _ : Unit, _) from fun _ : Unit => c)
  have HR := (show Hid _ from hR)
  have HV := (show Hid _ from hV)
  have HK := (show Hid _ from hk)
  clear hT c hR hV hk
  go_enter Tryz.func61, Tryz.ntmps61
  go_wp2_with (first | (go_at_call 51; fail))
  rw [← hW0]
  clear hW0
  refine (C.out ()).mono ?_
  rintro e w1 ⟨rfl, hb⟩
  have hk1 : Kx [] W0 w1 := Kx.ofBelow hb []
  have hR1 : w1.heap[w.heap.size + 1]? = some (Obj.cells #[.int .i64 0, .float .f64 0, .string ⟨#[]⟩, .pointer none] 73 (0, 0)) := hk1.get HR.out (by simp)
  have hV1 : w1.heap[w.heap.size + 1 + 1]? = some (Obj.cells #[.int .i64 4, .float .f64 0, .string ⟨#[]⟩, .pointer none] 73 (0, 0)) := hk1.get HV.out (by simp)
  have HK1 : Hid (Kx [] w w1) := (show Kx [] w w1 from HK.out.same hk1)
  have cR0 : w1.cell? ⟨w.heap.size + 1, 0, none⟩ = some (.int .i64 0) := by simp [World.cell?, hR1]
  have fR0 : w1.frozen? ⟨w.heap.size + 1, 0, none⟩ = false := by simp [World.frozen?, hR1]
  have cR1 : w1.cell? ⟨w.heap.size + 1, 1, none⟩ = some (.float .f64 0) := by simp [World.cell?, hR1]
  have fR1 : w1.frozen? ⟨w.heap.size + 1, 1, none⟩ = false := by simp [World.frozen?, hR1]
  have cR2 : w1.cell? ⟨w.heap.size + 1, 2, none⟩ = some (.string ⟨#[]⟩) := by simp [World.cell?, hR1]
  have fR2 : w1.frozen? ⟨w.heap.size + 1, 2, none⟩ = false := by simp [World.frozen?, hR1]
  have cR3 : w1.cell? ⟨w.heap.size + 1, 3, none⟩ = some (.pointer none) := by simp [World.cell?, hR1]
  have fR3 : w1.frozen? ⟨w.heap.size + 1, 3, none⟩ = false := by simp [World.frozen?, hR1]
  have cV0 : w1.cell? ⟨w.heap.size + 1 + 1, 0, none⟩ = some (.int .i64 4) := by simp [World.cell?, hV1]
  have fV0 : w1.frozen? ⟨w.heap.size + 1 + 1, 0, none⟩ = false := by simp [World.frozen?, hV1]
  have cV1 : w1.cell? ⟨w.heap.size + 1 + 1, 1, none⟩ = some (.float .f64 0) := by simp [World.cell?, hV1]
  have fV1 : w1.frozen? ⟨w.heap.size + 1 + 1, 1, none⟩ = false := by simp [World.frozen?, hV1]
  have cV2 : w1.cell? ⟨w.heap.size + 1 + 1, 2, none⟩ = some (.string ⟨#[]⟩) := by simp [World.cell?, hV1]
  have fV2 : w1.frozen? ⟨w.heap.size + 1 + 1, 2, none⟩ = false := by simp [World.frozen?, hV1]
  have cV3 : w1.cell? ⟨w.heap.size + 1 + 1, 3, none⟩ = some (.pointer none) := by simp [World.cell?, hV1]
  have fV3 : w1.frozen? ⟨w.heap.size + 1 + 1, 3, none⟩ = false := by simp [World.frozen?, hV1]
  clear HR HV HK C hk1 hb
  have HR := (show Hid _ from hR1)
  clear hR1 hV1
  go_wp2
  have r0 := heap_setCell_ne HR.out (show w.heap.size + 1 + 1 ≠ w.heap.size + 1 by omega) 2 (.string D)
  have r1 := heap_set_at (C' := #[.int .i64 4, .float .f64 0, .string ⟨#[]⟩, .pointer none]) r0 0 (.int .i64 4) rfl
  have r2 := heap_set_at (C' := #[.int .i64 4, .float .f64 0, .string ⟨#[]⟩, .pointer none]) r1 1 (.float .f64 0) rfl
  have r3 := heap_set_at (C' := #[.int .i64 4, .float .f64 0, .string D, .pointer none]) r2 2 (.string D) rfl
  have r4 := heap_set_at (C' := #[.int .i64 4, .float .f64 0, .string D, .pointer none]) r3 3 (.pointer none) rfl
  clear r0 r1 r2 r3
  refine bodyPost_ret (results_row_tmp rfl _ _ (w.heap.size + 1) 73 _ (0, 0) _ rfl r4 Tryz.underlying73 rfl (by kernel_rfl) _ rfl) rfl ?_
  exact ⟨rfl, HK1.out.trans ((((((Kx.refl [w.heap.size + 1, w.heap.size + 1 + 1] w1).set (by simp) _).set (by simp) _).set (by simp) _).set (by simp) _).set (by simp) _) (fun i hi => .inr (by simp at hi; omega))⟩
end Go.Proofs.YtdnjgemaenhcfaaGreatDoor
