/- The walks of search, Find, tried and plain.Find. -/
import Derived.Test.YtpaaladlddifjaaGreatDoorM6
set_option linter.unusedVariables false
namespace Go.Proofs.YtpaaladlddifjaaGreatDoor
open Go.RowKit Re

theorem Got.mono {w : World} {N N' first q : Nat} {us l : List Nat} {fv : Value} (h : Got w N us l first q fv) (hN : N' ≤ N) : Got w N' us l first q fv := by
  rcases h with h | ⟨i, h1, h2, h3, h4, h5⟩
  · exact .inl h
  · exact .inr ⟨i, h1, h2, h3, h4, owns_le h5 hN⟩
theorem Got.kept {w w' : World} {N first q : Nat} {us l : List Nat} {fv : Value} {S : List Nat} (h : Got w N us l first q fv) (k : Kx S w w') (hS : ∀ i ∈ S, ∀ cur fr, w.heap[i]? ≠ some (Obj.cells cur 3 fr)) : Got w' N us l first q fv := by
  rcases h with h | ⟨i, h1, h2, h3, h4, h5⟩
  · exact .inl h
  · refine .inr ⟨i, h1, h2, h3, h4, k.owns h5 (fun g hg hm => ?_)⟩
    rcases h5.2 with ⟨rfl, _⟩ | ⟨g', cap, cur', rfl, _, hgg, _⟩
    · simp [Value.ownBlock] at hg
    · simp [Value.ownBlock] at hg
      subst hg
      exact hS _ hm _ _ hgg
set_option maxRecDepth 100000 in
set_option maxHeartbeats 1000000 in
theorem search_any {w : World} {P c N : Nat} {a : Option Addr} {l us : List Nat} (hu : ∀ u ∈ us, u < 65536) (hn : us.length ≤ 300) (hm : l.length ≤ 2000) (first : Nat) (hfl : first ≤ l.length) (hP : PatIs w N P us) (hl : Lu w a l) :
    Calls Tryz.prog 16 #[.pointer (some ⟨P, 0, none⟩), .slice a l.length c, .int .i64 (first : Int), .int .i64 (l.length : Int), .int .i64 1073741824] w fun e w' => ∃ fv took q, e = .returned (.tuple #[fv, .int .i64 took, .nilIface]) ∧ Got w' w.heap.size us l first q fv ∧ (fv = .slice none 0 0 → q = l.length + 1) ∧ Kx [] w w' := by
  have hmf : ∀ (fn : Fn) (first cap : Array Value) (w : World), (Instr.makeFunc fn first cap).run Tryz.prog w = .ok (.func fn first cap) w := fun _ _ _ _ => rfl
  have hne : ∀ (g : Addr) (w : World), (binOp BinOp.eql 25 (.pointer (some g)) (.pointer none)).run Tryz.prog w = .ok (.bool false) w := fun _ _ => by kernel_rfl
  obtain ⟨W, hW⟩ : ∃ W, W = (w.alloc (Obj.cells #[.int .i64 (first : Int)] 3)).alloc (Obj.cells #[.int .i64 (l.length : Int)] 3) := ⟨_, rfl⟩
  have hA : W.heap[w.heap.size]? = some (Obj.cells #[.int .i64 (first : Int)] 3 (0, 0)) := by rw [hW]; exact (Kx.alloc [] _ _).get (heap_new w _) (by simp)
  have hB : W.heap[w.heap.size + 1]? = some (Obj.cells #[.int .i64 (l.length : Int)] 3 (0, 0)) := by
    have h := heap_new (w.alloc (Obj.cells #[.int .i64 (first : Int)] 3)) (Obj.cells #[.int .i64 (l.length : Int)] 3)
    rw [show (w.alloc (Obj.cells #[.int .i64 (first : Int)] 3)).heap.size = w.heap.size + 1 by simp, ← hW] at h
    exact h
  have hK : Kx [] w W := by rw [hW]; exact (Kx.alloc _ _ _).alc _
  have hPW := hP.kept hK (by simp)
  have hLW := hl.kept hK (by simp)
  obtain ⟨cv, hp1, hp2⟩ := hPW
  have cn := newMachine_any a l.length c hp1
  have a0 : W.cell? ⟨w.heap.size, 0, none⟩ = some (.int .i64 (first : Int)) := cell_at hA 0 rfl
  have b0 : W.cell? ⟨w.heap.size + 1, 0, none⟩ = some (.int .i64 (l.length : Int)) := cell_at hB 0 rfl
  have JW : Hid (W = (w.alloc (Obj.cells #[.int .i64 (first : Int)] 3)).alloc (Obj.cells #[.int .i64 (l.length : Int)] 3)) := hW
  have hle : ¬ (l.length : Int) < (first : Int) := by omega
  rw [hW] at cn a0 b0
  clear hW
  go_enter Tryz.func16, Tryz.ntmps16
  go_wp2_with (first | (go_at_call 26; refine cn.mono ?_; rintro e w1 ⟨M, G, H, rfl, m1, m2, m3, m4, m5⟩; rw [← JW.out] at m1 m2 m5) | (go_at_call 12; fail))
  obtain ⟨V, hV⟩ : ∃ V, V = (w1.alloc (Obj.cells #[.pointer (some ⟨M, 0, none⟩)] 68)).alloc (Obj.cells #[.slice none 0 0] 30) := ⟨_, rfl⟩
  rw [← hV]
  have vD : V.heap[w1.heap.size]? = some (Obj.cells #[.pointer (some ⟨M, 0, none⟩)] 68 (0, 0)) := by rw [hV]; exact (Kx.alloc [] _ _).get (heap_new w1 _) (by simp)
  have vC : V.heap[w1.heap.size + 1]? = some (Obj.cells #[.slice none 0 0] 30 (0, 0)) := by
    have h := heap_new (w1.alloc (Obj.cells #[.pointer (some ⟨M, 0, none⟩)] 68)) (Obj.cells #[.slice none 0 0] 30)
    rw [show (w1.alloc (Obj.cells #[.pointer (some ⟨M, 0, none⟩)] 68)).heap.size = w1.heap.size + 1 by simp, ← hV] at h
    exact h
  have kV : Kx [] w1 V := by rw [hV]; exact (Kx.alloc _ _ _).alc _
  have hMlt := lt_get m3
  have hGlt := lt_get m4
  have hWs : W.heap.size = w.heap.size + 2 := by rw [JW.out]; simp
  have kVE := Kx.alloc [] V (Obj.cells #[.nilIface] 35)
  have vE := heap_new V (Obj.cells #[.nilIface] 35)
  have kall := (m5.same kV).same kVE
  have sz1 := kV.size
  have hPV : PatIs (V.alloc (Obj.cells #[.nilIface] 35)) N P us := PatIs.kept ⟨cv, hp1, hp2⟩ kall (by simp)
  have c1 := search1_any hu hn hm first hfl (w.heap.size) (w.heap.size + 1) (w1.heap.size + 1) (w1.heap.size) (kall.get hA (by simp)) (kall.get hB (by simp)) (kVE.get vC (by simp)) (kVE.get vD (by simp)) (by omega) (by omega) (kVE.get (kV.get m3 (by simp)) (by simp)) hPV (hLW.kept kall (by simp)) (kVE.get (kV.get m4 (by simp)) (by simp))
  have hCl := lt_get vC
  have cc := caught_27 _ V (fun w2 => SPost (V.alloc (Obj.cells #[.nilIface] 35)) w2 M P G H c (w1.heap.size + 1) first a l us ∧ w2.heap[V.heap.size]? = some (Obj.cells #[.nilIface] 35 (0, 0))) (c1.mono (fun e w2 ⟨he, hs⟩ => by
    obtain ⟨pc, p, took, q, fv, s1, s2, s3, s4, s5⟩ := hs
    have hE1 := s5.get vE (by simp; omega)
    exact ⟨he, ⟨SPost.mk pc p took q fv s1 s2 s3 s4 s5, hE1⟩, hE1⟩))
  refine cc.mono ?_
  rintro e w3 ⟨rfl, w2, ⟨⟨pc, p, took, q, fv, s1, s2, s3, s4, s5⟩, s6⟩, k3⟩
  have hM3 := k3.get s1 (by simp; omega)
  have hC3 := k3.get s2 (by simp; omega)
  have hD2 := kx_three (kVE.get (kV.get m3 (by simp)) (by simp)) (kVE.get (kV.get m4 (by simp)) (by simp)) (kVE.get vC (by simp)) s5 (kVE.get vD (by simp)) (by decide) (.inl (by decide)) (by decide)
  have hD3 := k3.get hD2 (by simp; omega)
  have x0 : w3.cell? ⟨w1.heap.size + 1, 0, none⟩ = some fv := cell_at hC3 0 rfl
  have x1 : w3.cell? ⟨w1.heap.size, 0, none⟩ = some (.pointer (some ⟨M, 0, none⟩)) := cell_at hD3 0 rfl
  have x2 := (mc_cells hM3).2.2.2.2.1
  have hsV : (V.alloc (Obj.cells #[.nilIface] 35)).heap.size = V.heap.size + 1 := by simp
  have HF : Hid (Got w3 w.heap.size us l first q fv ∧ (fv = .slice none 0 0 → q = l.length + 1) ∧ Kx [] w w3) := by
    refine ⟨(s3.kept k3 (fun i hi => by rw [List.mem_singleton.1 hi]; exact not_kind s6 (by decide))).mono (by omega), s4, ?_⟩
    exact ((hK.same kall).trans s5 (fun i hi => .inr (by simp at hi; rcases hi with rfl | rfl | rfl <;> omega))).trans k3 (fun i hi => .inr (by rw [List.mem_singleton.1 hi]; omega))
  have hfv : ∃ z n m, fv = .slice z n m := by
    rcases s3 with ⟨rfl, _⟩ | ⟨i, _, _, _, _, h5⟩
    · exact ⟨_, _, _, rfl⟩
    · obtain ⟨z, cap, e⟩ := owns_slice h5
      exact ⟨_, _, _, e⟩
  obtain ⟨z, n, m, rfl⟩ := hfv
  clear s1 s2 s3 s4 s5 s6 k3 hM3 hC3 hD2 hD3 cc c1 hCl hPV sz1 kall vE kVE hGlt hMlt kV vC vD hV m1 m2 m3 m4 m5 hA hB hK hp1 hp2 hLW cn a0 b0 hP hl hWs hsV
  go_wp2
  go_quiet (fail)
  go_wp2
  go_ret3
  exact ⟨_, _, q, rfl, HF.out.1.kept (Kx.drewN [] _ _) (by simp), HF.out.2.1, HF.out.2.2.drw _⟩
set_option maxRecDepth 100000 in
set_option maxHeartbeats 1000000 in
theorem find_any {w : World} {P c N : Nat} {a : Option Addr} {l us : List Nat} (hu : ∀ u ∈ us, u < 65536) (hn : us.length ≤ 300) (hm : l.length ≤ 2000) (first : Nat) (hfl : first ≤ l.length) (hP : PatIs w N P us) (hl : Lu w a l) :
    Calls Tryz.prog 11 #[.pointer (some ⟨P, 0, none⟩), .slice a l.length c, .int .i64 (first : Int), .int .i64 1073741824] w fun e w' => ∃ fv took q, e = .returned (.tuple #[fv, .int .i64 took, .nilIface]) ∧ Got w' w.heap.size us l first q fv ∧ (fv = .slice none 0 0 → q = l.length + 1) ∧ Kx [] w w' := by
  have cs := search_any (c := c) hu hn hm first hfl hP hl
  clear hP hl
  go_enter Tryz.func11, Tryz.ntmps11
  go_wp2_with (first | (go_at_call 16; refine cs.mono ?_; rintro e w1 ⟨fv, took, q, rfl, h1, h2, h3⟩))
  go_ret3
  exact ⟨_, _, q, rfl, h1, h2, h3⟩
end Go.Proofs.YtpaaladlddifjaaGreatDoor
