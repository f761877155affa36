/- The walks of tried and plain.Find. -/
import Derived.Test.YtpaaladlddifjaaGreatDoorM7
set_option linter.unusedVariables false
namespace Go.Proofs.YtpaaladlddifjaaGreatDoor
open Go.RowKit Re

/-- The slice value sv holds the units us. -/
def TextA (w : World) (sv : Value) (us : List Nat) : Prop :=
  ∃ a cap, sv = .slice a us.length cap ∧ (us ≠ [] → ∃ b off, a = some ⟨b, off, none⟩ ∧ ∀ j, j < us.length → w.cell? ⟨b, off + j, none⟩ = some (.int .u16 ((us[j]?.getD 0 : Nat) : Int)))
theorem TextA.kept {w w' : World} {S : List Nat} {sv : Value} {us : List Nat} (h : TextA w sv us) (k : Kx S w w') (hS : ∀ i ∈ S, w.heap.size ≤ i) : TextA w' sv us := by
  obtain ⟨a, cap, e, h2⟩ := h
  refine ⟨a, cap, e, fun hn => ?_⟩
  obtain ⟨b, off, ea, hc⟩ := h2 hn
  exact ⟨b, off, ea, fun j hj => k.cell (hc j hj) (fun hm => by have := hS _ hm; have := World.block_lt_of_cell? w _ (hc j hj); simp at *; omega)⟩
set_option maxRecDepth 100000 in
set_option maxHeartbeats 1000000 in
theorem tried_nil {w : World} {P N : Nat} {us : List Nat} (hu : ∀ u ∈ us, u < 65536) (hn : us.length ≤ 300) (a : Option Addr) (cap : Nat) (first : Nat) (hfl : first ≤ 0) (hP : PatIs w N P us) :
    Calls Tryz.prog 10 #[.func (.func 11) #[.pointer (some ⟨P, 0, none⟩)] #[], .slice a 0 cap, .int .i64 (first : Int), .int .i64 1073741824] w fun e w' => ∃ fv took q, e = .returned (.tuple #[fv, .int .i64 took, .int .i64 0]) ∧ Got w' w.heap.size us [] first q fv ∧ (fv = .slice none 0 0 → q = 1) ∧ Kx [] w w' := by
  obtain ⟨i0, hi, hz0, hz1, hz2⟩ := info_parts info24
  have cf := find_any (w := w) (a := none) (c := 0) (l := []) hu hn (by simp) first (by simpa using hfl) hP (fun h => absurd rfl h)
  have hpure : ∀ w : World, Sem.run Tryz.prog (pure (#[] : Array Value)) w = .ok #[] w := fun _ => rfl
  clear hP
  cases a with
  | none =>
    go_enter Tryz.func10, Tryz.ntmps10
    go_wp2_with (first | (go_at_call 11; refine cf.mono ?_; rintro e w1 ⟨fv, took, q, rfl, h1, h2, h3⟩) | (go_at_call 9; refine (number_nil _).mono ?_; rintro e w2 ⟨rfl, hk⟩))
    refine wp_loop_once ?_
    go_wp2
    go_ret3
    exact ⟨_, _, q, rfl, h1.kept hk (by simp), h2, h3.same hk⟩
  | some z =>
    go_enter Tryz.func10, Tryz.ntmps10
    go_wp2_with (first | (go_at_call 11; refine cf.mono ?_; rintro e w1 ⟨fv, took, q, rfl, h1, h2, h3⟩) | (go_at_call 9; refine (number_nil _).mono ?_; rintro e w2 ⟨rfl, hk⟩))
    refine wp_loop_once ?_
    go_wp2
    go_ret3
    exact ⟨_, _, q, rfl, h1.kept hk (by simp), h2, h3.same hk⟩
set_option maxRecDepth 100000 in
set_option maxHeartbeats 1000000 in
theorem tried_some {w : World} {P N : Nat} {us l : List Nat} (hu : ∀ u ∈ us, u < 65536) (hn : us.length ≤ 300) (hl : ∀ u ∈ l, u < 65536) (hm : l.length ≤ 2000) (h0 : l ≠ []) (b off cap : Nat) (hc : ∀ j, j < l.length → w.cell? ⟨b, off + j, none⟩ = some (.int .u16 ((l[j]?.getD 0 : Nat) : Int))) (first : Nat) (hfl : first ≤ l.length) (hP : PatIs w N P us) :
    Calls Tryz.prog 10 #[.func (.func 11) #[.pointer (some ⟨P, 0, none⟩)] #[], .slice (some ⟨b, off, none⟩) l.length cap, .int .i64 (first : Int), .int .i64 1073741824] w fun e w' => ∃ fv took q, e = .returned (.tuple #[fv, .int .i64 took, .int .i64 0]) ∧ Got w' w.heap.size us l first q fv ∧ (fv = .slice none 0 0 → q = l.length + 1) ∧ Kx [] w w' := by
  obtain ⟨i0, hi, hz0, hz1, hz2⟩ := info_parts info24
  have q3 : 0 + l.length ≤ maxLen := by unfold maxLen; omega
  have hnews : ∀ j u, (l.map uv)[j]? = some u → w.cell? ((⟨b, off, none⟩ : Addr).add j) = some u := by
    intro j u hj
    have e : ((⟨b, off, none⟩ : Addr).add j) = ⟨b, off + j, none⟩ := by
      unfold Addr.add
      split <;> simp_all
    have hjl : j < l.length := by
      rcases Nat.lt_or_ge j l.length with h | h
      · exact h
      · rw [List.getElem?_eq_none (by simpa using h)] at hj; simp at hj
    rw [List.getElem?_map, List.getElem?_eq_getElem hjl] at hj
    rw [e, hc j hjl, List.getElem?_eq_getElem hjl]
    simpa [uv] using hj
  have h1c : ∀ u ∈ l.map uv, u.oneCell' = true := by
    intro u hu
    obtain ⟨x, _, rfl⟩ := List.mem_map.1 hu
    rfl
  have hpos : 0 < l.length := by cases l <;> simp_all
  have cf := fun W (hP : PatIs W N P us) a c (hl : Lu W a l) => find_any (w := W) (a := a) (c := c) (l := l) hu hn hm first hfl hP hl
  have HC : Hid (∀ j, j < l.length → w.cell? ⟨b, off + j, none⟩ = some (.int .u16 ((l[j]?.getD 0 : Nat) : Int))) := hc
  have HP : Hid (PatIs w N P us) := hP
  clear hP hc
  go_enter Tryz.func10, Tryz.ntmps10
  go_wp2_with (first | (at_builtin; refine wpList_append_lies _ rfl _ _ 22 rfl w.heap.size 24 i0 (.int .u16 0) 1 2 Tryz.underlying22 hi hz0 hz1 hz2 rfl (by decide) (.slice none 0 0) 0 [] rfl (World.ownsRow_nil _ _ _ _) ⟨b, off, none⟩ l.length cap (l.map uv) rfl (by simp) hnews h1c hpos q3 (by omega) (Nat.le_refl _) w.heap.size rfl ?_; intro L cap' w1 hown hgrow hat hlt) | (go_at_call 11; fail))
  have hL := hown.lt L rfl
  have k1 : Kx [] w w1 := Kx.grown hgrow
  obtain ⟨a', c', e', hlu⟩ := lu_of_owns (by simpa using hown)
  cases e'
  refine (cf w1 (HP.out.kept k1 (by simp)) _ cap' hlu).mono ?_
  rintro e w2 ⟨fv, took, q, rfl, g1, g2, g3⟩
  have hfv : ∃ z n m, fv = .slice z n m := by
    rcases g1 with ⟨rfl, _⟩ | ⟨i, _, _, _, _, h5⟩
    · exact ⟨_, _, _, rfl⟩
    · obtain ⟨z, cap, e⟩ := owns_slice h5
      exact ⟨_, _, _, e⟩
  obtain ⟨z, nn, mm, rfl⟩ := hfv
  have HF : Hid (Got w2 w.heap.size us l first q (.slice z nn mm) ∧ (Value.slice z nn mm = .slice none 0 0 → q = l.length + 1) ∧ Kx [] w w2) := ⟨g1.mono k1.size, g2, k1.same g3⟩
  obtain ⟨L', cur, fr, eL, hcur, hcells⟩ := hlu h0
  cases eL
  have hfr : fr = (0, 0) := by
    rcases hown.2 with ⟨h, _⟩ | ⟨g', cp, cr, he, _, hg', _⟩
    · simp at h
    · cases he
      rw [hcur] at hg'
      simp at hg'
      exact hg'.2
  subst hfr
  have hL2 := g3.get hcur (by simp)
  have JL : Hid (w2.heap[L]? = some (Obj.cells cur 24 (0, 0))) := hL2
  have JC : Hid (∀ j, j < l.length → cur[j]? = some (.int .u16 ((l[j]?.getD 0 : Nat) : Int))) := hcells
  clear cf hnews h1c hgrow hat hown hlu hcur hcells g1 g2 g3 k1 hL2 HP hpos q3
  go_wp2_with (first | (go_at_call 9; refine (number_nil _).mono ?_; rintro e w3 ⟨rfl, hk3⟩))
  have JK3 : Hid (Kx [] w2 w3) := hk3
  have hbL : b ≠ L := by
    have h1 := World.block_lt_of_cell? w _ (HC.out 0 (by cases l <;> simp_all))
    have h2 := hL.1
    simp at h1
    omega
  clear hk3
  go_loopw [15, 32] (fun v i wr => ∃ (k : Nat) (cu : Array Value), k ≤ l.length ∧ v = .int .i64 0 ∧ i = .int .i64 (k : Int) ∧ wr.heap[L]? = some (Obj.cells cu 24 (0, 0)) ∧ (∀ j, k ≤ j → j < l.length → cu[j]? = some (.int .u16 ((l[j]?.getD 0 : Nat) : Int))) ∧ Kx [L] w2 wr) (fun _ i _ => l.length - (intOf i).toNat)
  case atStart => exact ⟨0, cur, Nat.zero_le _, rfl, rfl, JK3.out.get JL.out (by simp), fun j _ hj => JC.out j hj, JK3.out.mono (by simp)⟩
  case round =>
    obtain ⟨k, cu, hk, rfl, rfl, hLr, hcu, hK⟩ := hrel
    by_cases hlt : k < l.length
    · have x0 : wr.cell? ⟨L, k, none⟩ = some (.int .u16 ((l[k]?.getD 0 : Nat) : Int)) := cell_at hLr k (hcu k (Nat.le_refl _) hlt)
      have x1 := fr_all hLr
      have x2 : wr.cell? ⟨b, off + k, none⟩ = some (.int .u16 ((l[k]?.getD 0 : Nat) : Int)) := hK.cell (HF.out.2.2.cell (HC.out k hlt) (by simp)) (by simpa using hbL)
      generalize l[k]?.getD 0 = x at *
      have J1 : Hid (wr.heap[L]? = some (Obj.cells cu 24 (0, 0))) := hLr
      have J2 : Hid (∀ j, k ≤ j → j < l.length → cu[j]? = some (.int .u16 ((l[j]?.getD 0 : Nat) : Int))) := hcu
      have J3 : Hid (Kx [L] w2 wr) := hK
      clear hLr hcu hK
      go_wp2
      go_quiet (fail)
      go_wp2
      go_roundw
      case rel => exact ⟨k + 1, cu.setIfInBounds k (.int .u16 33), by omega, rfl, by go_num, heap_put J1.out k _, fun j h1 h2 => by
        rw [Array.getElem?_setIfInBounds_ne (by omega)]
        exact J2.out j (by omega) h2, (J3.out.drw _).set (by simp) _⟩
      case measure => simp [intOf]; omega
    · obtain rfl : k = l.length := by omega
      have J3 : Hid (Kx [L] w2 wr) := hK
      have J4 : Hid (w2.heap[L]? = some (Obj.cells cur 24 (0, 0))) := JL
      clear hLr hcu hK
      go_wp2
      go_ret3
      exact ⟨_, _, q, rfl, HF.out.1.kept J3.out (fun i hi => by rw [List.mem_singleton.1 hi]; exact not_kind J4.out (by decide)), HF.out.2.1, HF.out.2.2.trans J3.out (fun i hi => .inr (by rw [List.mem_singleton.1 hi]; exact hL.1))⟩
theorem tried_any {w : World} {P N : Nat} {us l : List Nat} {sv : Value} (hu : ∀ u ∈ us, u < 65536) (hn : us.length ≤ 300) (hl : ∀ u ∈ l, u < 65536) (hm : l.length ≤ 2000) (hT : TextA w sv l) (first : Nat) (hfl : first ≤ l.length) (hP : PatIs w N P us) :
    Calls Tryz.prog 10 #[.func (.func 11) #[.pointer (some ⟨P, 0, none⟩)] #[], sv, .int .i64 (first : Int), .int .i64 1073741824] w fun e w' => ∃ fv took q, e = .returned (.tuple #[fv, .int .i64 took, .int .i64 0]) ∧ Got w' w.heap.size us l first q fv ∧ (fv = .slice none 0 0 → q = l.length + 1) ∧ Kx [] w w' := by
  obtain ⟨a, cap, rfl, h2⟩ := hT
  by_cases h0 : l = []
  · subst h0
    exact tried_nil hu hn a cap first (by simpa using hfl) hP
  · obtain ⟨b, off, rfl, hc⟩ := h2 h0
    exact tried_some hu hn hl hm h0 b off cap hc first hfl hP
set_option maxRecDepth 100000 in
set_option maxHeartbeats 1000000 in
theorem pfind_any {w : World} {P N : Nat} {us l : List Nat} {sv : Value} (hu : ∀ u ∈ us, u < 65536) (hn : us.length ≤ 300) (hl : ∀ u ∈ l, u < 65536) (hm : l.length ≤ 2000) (hT : TextA w sv l) (first : Nat) (hfl : first ≤ l.length) (hP : PatIs w N P us) :
    Calls Tryz.prog 7 #[.pointer (some ⟨P, 0, none⟩), sv, .int .i64 (first : Int), .int .i64 1073741824] w fun e w' => ∃ fv took q, e = .returned (.tuple #[fv, .int .i64 took, .int .i64 0]) ∧ Got w' w.heap.size us l first q fv ∧ (fv = .slice none 0 0 → q = l.length + 1) ∧ Kx [] w w' := by
  have hmf : ∀ (fn : Fn) (first cap : Array Value) (w : World), (Instr.makeFunc fn first cap).run Tryz.prog w = .ok (.func fn first cap) w := fun _ _ _ _ => rfl
  have ct := tried_any hu hn hl hm hT first hfl hP
  clear hT hP
  go_enter Tryz.func7, Tryz.ntmps7
  go_wp2_with (first | (go_at_call 10; refine ct.mono ?_; rintro e w1 ⟨fv, took, q, rfl, h1, h2, h3⟩))
  go_ret3
  exact ⟨_, _, q, rfl, h1, h2, h3⟩
end Go.Proofs.YtpaaladlddifjaaGreatDoor
