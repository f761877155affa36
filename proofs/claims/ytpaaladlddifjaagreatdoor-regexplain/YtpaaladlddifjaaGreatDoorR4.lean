/- The walks of term, row and pattern: a pattern of escapes of units alone. -/
import Derived.Test.YtpaaladlddifjaaGreatDoorR3
import Derived.Deep.RegionLaw
import Derived.Deep.AppendLies
set_option linter.unusedVariables false
namespace Go.Proofs.YtpaaladlddifjaaGreatDoor
open Go.RowKit Re

section
variable {w : World} {R c p ts : Nat} {a : Option Addr} {l : List Nat}
set_option maxRecDepth 100000 in
set_option maxHeartbeats 1000000 in
theorem term_u (d : Nat → Nat) (hd16 : ∀ k, d k < 16) (h : w.heap[R]? = some (Obj.cells (rdA a l.length c p ts) 56 (0, 0))) (hl : Lu w a l) (hp : p + 6 ≤ l.length) (hm : l.length ≤ 100000) (hts : ts < 4096) (hs : l[p]?.getD 0 = 92) (h0 : l[p + 1]?.getD 0 = 117) (hx : ∀ k, k < 4 → l[p + 1 + 1 + k]?.getD 0 = hd (d k)) (hn : p + 6 < l.length → l[p + 6]?.getD 0 = 92) :
    Calls Tryz.prog 54 #[.pointer (some ⟨R, 0, none⟩)] w fun e w' => ∃ g, w.heap.size ≤ g ∧ e = .returned (.pointer (some ⟨g, 0, none⟩)) ∧ w'.heap[g]? = some (Obj.cells (nodeL 0 (hv d 4 : Nat)) 90 (0, 0)) ∧ w'.heap[R]? = some (Obj.cells (rdA a l.length c (p + 6) (ts + 1)) 56 (0, 0)) ∧ Kx [R] w w' := by
  have hk1 : Kx [R] w (w.setCell ⟨R, 3, none⟩ (.int .i64 ((ts : Int) + 1))) := (Kx.refl _ _).set (by simp) _
  have hh1 : (w.setCell ⟨R, 3, none⟩ (.int .i64 ((ts : Int) + 1))).heap[R]? = some (Obj.cells (rdA a l.length c p (ts + 1)) 56 (0, 0)) := heap_put h 3 _
  have cp := part_u d hd16 hh1 (hl.kept hk1 (rd_ne h)) hp hm hs h0 hx
  have ct := fun W g (hW : W.heap[R]? = some (Obj.cells (rdA a l.length c (p + 6) (ts + 1)) 56 (0, 0))) (hK : Kx [R] w W) => times_no hW (hl.kept hK (rd_ne h)) hp hm hn g
  have HK : Hid (Kx [R] w (w.setCell ⟨R, 3, none⟩ (.int .i64 ((ts : Int) + 1)))) := hk1
  obtain ⟨c0, c1, c2, c3, c4, c5, c6, hf⟩ := rd_cells h
  generalize hv d 4 = v at *
  clear h hl hx hd16 h0 hs hn hk1 hh1
  go_enter Tryz.func54, Tryz.ntmps54
  go_wp2_with (first | (go_at_call 64; refine cp.mono ?_; rintro e w2 ⟨g, hg, rfl, hn2, hh2, hk2⟩; have HK2 : Hid (Kx [R] w w2) := HK.out.same hk2; clear hk2) | (go_at_call 65; refine (ct _ g hh2 HK2.out).mono ?_; rintro e w3 ⟨rfl, hk3⟩))
  go_ret
  have hs1 := HK.out.size
  exact ⟨g, by omega, rfl, hk3.get hn2 (by simp), hk3.get hh2 (by simp), HK2.out.trans hk3 (by simp)⟩
end

/-- The digits of a unit, the first ahead. -/
def dig (u : Nat) (k : Nat) : Nat := match k with
  | 0 => u / 4096
  | 1 => u / 256 % 16
  | 2 => u / 16 % 16
  | _ => u % 16
theorem dig_lt {u : Nat} (h : u < 65536) : ∀ k, dig u k < 16 := by
  intro k
  unfold dig
  split <;> omega
theorem dig_hv {u : Nat} (h : u < 65536) : hv (dig u) 4 = u := by
  simp only [hv, dig]
  omega
theorem pat_facts (us : List Nat) (hu : ∀ u ∈ us, u < 65536) (i : Nat) (hi : i < us.length) :
    (pat us)[6 * i]?.getD 0 = 92 ∧ (pat us)[6 * i + 1]?.getD 0 = 117 ∧ (∀ k, k < 4 → (pat us)[6 * i + 1 + 1 + k]?.getD 0 = hd (dig (us[i]?.getD 0) k)) ∧ (6 * i + 6 < (pat us).length → (pat us)[6 * i + 6]?.getD 0 = 92) := by
  have h0 := pat_at us i 0 hi (by omega)
  have h1 := pat_at us i 1 hi (by omega)
  refine ⟨by rw [show 6 * i = 6 * i + 0 from rfl, h0]; rfl, by rw [h1]; rfl, ?_, ?_⟩
  · intro k hk
    rw [show 6 * i + 1 + 1 + k = 6 * i + (2 + k) by omega, pat_at us i (2 + k) hi (by omega)]
    obtain rfl | rfl | rfl | rfl : k = 0 ∨ k = 1 ∨ k = 2 ∨ k = 3 := by omega
    all_goals rfl
  · intro hlt
    rw [pat_len] at hlt
    have := pat_at us (i + 1) 0 (by omega) (by omega)
    rw [show 6 * (i + 1) + 0 = 6 * i + 6 by omega] at this
    rw [this]
    rfl
theorem us_lt {us : List Nat} (hu : ∀ u ∈ us, u < 65536) (i : Nat) : us[i]?.getD 0 < 65536 := by
  by_cases h : i < us.length
  · rw [List.getElem?_eq_getElem h]; exact hu _ (List.getElem_mem h)
  · rw [List.getElem?_eq_none (by omega)]; simp
/-- The term at a place of a pattern of units. -/
theorem term_at {w : World} {R c ts : Nat} {a : Option Addr} (us : List Nat) (hu : ∀ u ∈ us, u < 65536) (hn : us.length ≤ 300) (i : Nat) (hi : i < us.length) (h : w.heap[R]? = some (Obj.cells (rdA a (pat us).length c (6 * i) i) 56 (0, 0))) (hl : Lu w a (pat us)) :
    Calls Tryz.prog 54 #[.pointer (some ⟨R, 0, none⟩)] w fun e w' => ∃ g, w.heap.size ≤ g ∧ e = .returned (.pointer (some ⟨g, 0, none⟩)) ∧ w'.heap[g]? = some (Obj.cells (nodeL 0 (us[i]?.getD 0 : Nat)) 90 (0, 0)) ∧ w'.heap[R]? = some (Obj.cells (rdA a (pat us).length c (6 * (i + 1)) (i + 1)) 56 (0, 0)) ∧ Kx [R] w w' := by
  obtain ⟨f1, f2, f3, f4⟩ := pat_facts us hu i hi
  have hlen := pat_len us
  have := term_u (dig (us[i]?.getD 0)) (dig_lt (us_lt hu i)) h hl (by omega) (by omega) (by omega) f1 f2 f3 f4
  rw [dig_hv (us_lt hu i)] at this
  exact this
/-- The cells of a node that is a row. -/
def nodeR (kv : Value) : Array Value := #[.int .i64 1, .int .i64 0, .int .i64 0, .int .i64 0, .int .i64 0, .int .i64 0, .int .i64 0, .bool false, .int .i64 0, .int .i64 0, .int .i64 0, .int .i64 0, .int .i64 0, kv]
/-- Leaves that pointers lead to. -/
def Leafs (w : World) (N : Nat) (gs us : List Nat) : Prop := gs.length = us.length ∧ ∀ j, j < us.length → N ≤ gs[j]?.getD 0 ∧ w.heap[gs[j]?.getD 0]? = some (Obj.cells (nodeL 0 (us[j]?.getD 0 : Nat)) 90 (0, 0))
def pv (g : Nat) : Value := .pointer (some ⟨g, 0, none⟩)
theorem Leafs.kept {w w' : World} {M : Nat} {gs us : List Nat} {S : List Nat} (h : Leafs w M gs us) (k : Kx S w w') (hS : ∀ i ∈ S, i < M ∨ ∀ cur fr, w.heap[i]? ≠ some (Obj.cells cur 90 fr)) : Leafs w' M gs us := by
  refine ⟨h.1, fun j hj => ⟨(h.2 j hj).1, k.get (h.2 j hj).2 (fun hm => ?_)⟩⟩
  rcases hS _ hm with h1 | h1
  · have := (h.2 j hj).1; omega
  · exact h1 _ _ (h.2 j hj).2
theorem Leafs.snoc {w : World} {M : Nat} {gs us : List Nat} (h : Leafs w M gs us) (g u : Nat) (hg : M ≤ g) (hw : w.heap[g]? = some (Obj.cells (nodeL 0 (u : Nat)) 90 (0, 0))) : Leafs w M (gs ++ [g]) (us ++ [u]) := by
  obtain ⟨h1, h2⟩ := h
  refine ⟨by simp [h1], fun j hj => ?_⟩
  simp only [List.length_append, List.length_cons, List.length_nil] at hj
  by_cases hlt : j < us.length
  · rw [List.getElem?_append_left (by omega), List.getElem?_append_left hlt]
    exact h2 j hlt
  · have : j = us.length := by omega
    subst this
    rw [List.getElem?_append_right (by omega), List.getElem?_append_right (by omega), h1]
    simpa using ⟨hg, hw⟩
def posOf (R : Nat) (w : World) : Nat := match w.cell? ⟨R, 1, none⟩ with
  | some (.int _ q) => q.toNat
  | _ => 0
theorem posOf_rd {w : World} {R : Nat} {a : Option Addr} {n c p ts : Nat} (h : w.heap[R]? = some (Obj.cells (rdA a n c p ts) 56 (0, 0))) : posOf R w = p := by
  unfold posOf
  rw [(rd_cells h).2.1]
  simp
theorem info57 : (Tryz.prog.info? 57).map (fun i => (i.zero, i.size, i.bytes)) = some (some (.pointer none), 1, 8) := by kernel_rfl
theorem take_snoc (us : List Nat) (i : Nat) (h : i < us.length) : us.take (i + 1) = us.take i ++ [us[i]?.getD 0] := by
  rw [List.take_add_one, List.getElem?_eq_getElem h]
  rfl
theorem row_step {w W w2 w1 : World} {N R c i g gg cap : Nat} {a : Option Addr} {us gs : List Nat} {kv : Value} {o : Obj} (hNs : N = w.heap.size) (hRw : R < w.heap.size) (hlt : i < us.length)
    (JNN : W.heap[N]? = some (Obj.cells (nodeR kv) 90 (0, 0))) (JOW : W.ownsRow w.heap.size 57 1 kv i (gs.map pv)) (JLF : Leafs W (w.heap.size + 1) gs (us.take i)) (JKK : Kx [R] w W) (JRR : W.heap[R]? = some (Obj.cells (rdA a (pat us).length c (6 * i) i) 56 (0, 0)))
    (hg : W.heap.size ≤ g) (hn2 : w2.heap[g]? = some (Obj.cells (nodeL 0 (us[i]?.getD 0 : Nat)) 90 (0, 0))) (hh2 : w2.heap[R]? = some (Obj.cells (rdA a (pat us).length c (6 * (i + 1)) (i + 1)) 56 (0, 0))) (hk2 : Kx [R] W w2)
    (hown1 : w1.ownsRow w.heap.size 57 1 (.slice (some ⟨gg, 0, none⟩) (i + 1) cap) (i + 1) (gs.map pv ++ [pv g])) (hgrow : (w2.alloc o).grownBy w1 kv.ownBlock) (sv : Value) (hsv : sv = .slice (some ⟨gg, 0, none⟩) (i + 1) cap) :
    (w1.setCell ⟨N, 13, none⟩ sv).heap[N]? = some (Obj.cells (nodeR sv) 90 (0, 0)) ∧ (w1.setCell ⟨N, 13, none⟩ sv).heap[R]? = some (Obj.cells (rdA a (pat us).length c (6 * (i + 1)) (i + 1)) 56 (0, 0)) ∧
    (w1.setCell ⟨N, 13, none⟩ sv).ownsRow w.heap.size 57 1 sv (i + 1) ((gs ++ [g]).map pv) ∧ Leafs (w1.setCell ⟨N, 13, none⟩ sv) (w.heap.size + 1) (gs ++ [g]) (us.take (i + 1)) ∧ Kx [R] w (w1.setCell ⟨N, 13, none⟩ sv) := by
  subst hsv
  have hNR : N ≠ R := by omega
  have hNW := lt_get JNN
  have jn2 := hk2.get JNN (by simpa using hNR)
  have ow2 := hk2.owns JOW (fun q hq hm => owns_ne JOW JRR (by decide) q hq (List.mem_singleton.1 hm))
  have kB := Kx.alloc [] w2 o
  have kC := Kx.grown hgrow
  have nI : ∀ {k cur t}, w2.heap[k]? = some (Obj.cells cur t (0, 0)) → t ≠ 57 → k ∉ kv.ownBlock.toList := fun hk ht hm => owns_ne ow2 hk ht _ (by simpa using hm) rfl
  have jn4 := kC.get (kB.get jn2 (by simp)) (nI jn2 (by decide))
  have kD : Kx [N] w1 (w1.setCell ⟨N, 13, none⟩ (.slice (some ⟨gg, 0, none⟩) (i + 1) cap)) := Kx.setCell _ (by simp) _
  have kAll : Kx [R] w (w1.setCell ⟨N, 13, none⟩ (.slice (some ⟨gg, 0, none⟩) (i + 1) cap)) :=
    ((((JKK.same hk2).trans kB (by simp)).trans kC (fun q hq => .inr (JOW.lt q (by simpa using hq)).1)).trans kD (fun q hq => .inr (by rw [List.mem_singleton.1 hq]; omega)))
  refine ⟨heap_put jn4 13 _, kD.get (kC.get (kB.get hh2 (by simp)) (nI hh2 (by decide))) (by simpa using Ne.symm hNR), ?_, ?_, kAll⟩
  · have := kD.owns hown1 (fun q hq hm => owns_ne hown1 jn4 (by decide) q hq (List.mem_singleton.1 hm))
    simpa using this
  · rw [take_snoc us i hlt]
    have l2 := JLF.kept hk2 (fun q hq => .inr (fun cur fr e => by rw [List.mem_singleton.1 hq, JRR] at e; simp at e))
    have l3 := l2.kept kB (by simp)
    have l4 := l3.kept kC (fun q hq => .inr (fun cur fr e => by
      have hq' : kv.ownBlock = some q := by simpa using hq
      exact owns_ne (kB.owns ow2 (by simp)) e (by decide) q hq' rfl))
    have l5 := l4.snoc g (us[i]?.getD 0) (by omega) (kC.get (kB.get hn2 (by simp)) (nI hn2 (by decide)))
    exact l5.kept kD (fun q hq => .inl (by rw [List.mem_singleton.1 hq]; omega))
set_option maxRecDepth 100000 in
set_option maxHeartbeats 1000000 in
theorem row_any {w : World} {R c : Nat} {a : Option Addr} (us : List Nat) (hu : ∀ u ∈ us, u < 65536) (hn : us.length ≤ 300) (h : w.heap[R]? = some (Obj.cells (rdA a (pat us).length c 0 0) 56 (0, 0))) (hl : Lu w a (pat us)) :
    Calls Tryz.prog 33 #[.pointer (some ⟨R, 0, none⟩)] w fun e w' => ∃ g kv gs, w.heap.size ≤ g ∧ e = .returned (.pointer (some ⟨g, 0, none⟩)) ∧ w'.heap[g]? = some (Obj.cells (nodeR kv) 90 (0, 0)) ∧ w'.ownsRow w.heap.size 57 1 kv us.length (gs.map pv) ∧ Leafs w' w.heap.size gs us ∧ w'.heap[R]? = some (Obj.cells (rdA a (pat us).length c (pat us).length us.length) 56 (0, 0)) ∧ Kx [R] w w' := by
  obtain ⟨i0, hi, hz0, hz1, hz2⟩ := info_parts info57
  have hlen := pat_len us
  obtain ⟨n, hN⟩ : ∃ n, n = (pat us).length := ⟨_, rfl⟩
  have hRw := lt_get h
  have HH : Hid (w.heap[R]? = some (Obj.cells (rdA a (pat us).length c 0 0) 56 (0, 0))) := h
  have HL : Hid (Lu w a (pat us)) := hl
  clear h hl
  obtain ⟨N, hNs⟩ : ∃ N, N = w.heap.size := ⟨_, rfl⟩
  go_enter Tryz.func33, Tryz.ntmps33
  go_wp2
  rw [← hNs]
  have HNs : Hid (N = w.heap.size) := hNs
  clear hNs hN
  go_loopw [] (fun wr => ∃ (i : Nat) (kv : Value) (gs : List Nat), i ≤ us.length ∧ gs.length = i ∧ wr.heap[N]? = some (Obj.cells (nodeR kv) 90 (0, 0)) ∧ wr.heap[R]? = some (Obj.cells (rdA a (pat us).length c (6 * i) i) 56 (0, 0)) ∧ wr.ownsRow w.heap.size 57 1 kv i (gs.map pv) ∧ Leafs wr (w.heap.size + 1) gs (us.take i) ∧ Kx [R] w wr) (fun wr => 6 * us.length - posOf R wr)
  case atStart => exact ⟨0, _, [], Nat.zero_le _, rfl, by rw [HNs.out]; exact heap_new w _, (Kx.alloc [] w _).get HH.out (by simp), World.ownsRow_nil _ _ _ _, ⟨rfl, fun j hj => by simp at hj⟩, Kx.alloc _ _ _⟩
  case round =>
    obtain ⟨i, kv, gs, hi1, hgs, hNN, hRR, hown, hlf, hK⟩ := hrel
    have hlu : Lu wr a (pat us) := HL.out.kept hK (rd_ne HH.out)
    by_cases hlt : i < us.length
    · obtain ⟨f1, f2, f3, f4⟩ := pat_facts us hu i hlt
      have ce := fun m => ended_any (w := wr.drewN m) hRR
      simp only [decide_eq_false (show ¬ 6 * i = (pat us).length by omega)] at ce
      have cI := fun m => is_no (w := wr.drewN m) hRR hlu (by omega) (by omega) 124 (fun _ => by rw [f1]; decide)
      have cJ := fun m => is_no (w := wr.drewN m) hRR hlu (by omega) (by omega) 41 (fun _ => by rw [f1]; decide)
      have HNN : Hid (wr.heap[N]? = some (Obj.cells (nodeR kv) 90 (0, 0))) := hNN
      have HRR : Hid (wr.heap[R]? = some (Obj.cells (rdA a (pat us).length c (6 * i) i) 56 (0, 0))) := hRR
      have HOW : Hid (wr.ownsRow w.heap.size 57 1 kv i (gs.map pv)) := hown
      have HLF : Hid (Leafs wr (w.heap.size + 1) gs (us.take i)) := hlf
      have HKK : Hid (Kx [R] w wr) := hK
      have HLU : Hid (Lu wr a (pat us)) := hlu
      clear hNN hRR hown hlf hK hlu f1 f2 f3 f4
      go_wp2_with (first | (go_at_call 22; refine (ce 0).mono ?_; rintro e w1 ⟨rfl, n1, rfl⟩; clear ce) | (go_at_call 53; refine (cI _).mono ?_; rintro e w1 ⟨rfl, n2, rfl⟩; clear cI) | (go_at_call 53; refine (cJ _).mono ?_; rintro e W ⟨rfl, n3, hW⟩; have HW : Hid (Kx [] wr W) := (by rw [hW]; exact ((Kx.refl _ _).drw _).drw _); clear hW; clear cJ))
      have hkW := HW.out
      have hNN := hkW.get HNN.out (by simp)
      have hRR := hkW.get HRR.out (by simp)
      have hown := hkW.owns HOW.out (by simp)
      have hlf := HLF.out.kept hkW (by simp)
      have hK := HKK.out.trans hkW (by simp)
      have hlu := HLU.out.kept hkW (by simp)
      have hNR : N ≠ R := by have := HNs.out; omega
      have hne : N ∉ kv.ownBlock.toList := fun hm => owns_ne hown hNN (by decide) N (by simpa using hm) rfl
      have hneR : R ∉ kv.ownBlock.toList := fun hm => owns_ne hown hRR (by decide) R (by simpa using hm) rfl
      have ct := fun W2 (hk : Kx [] W W2) => term_at (ts := 0) us hu hn i hlt (hk.get hRR (by simp)) (hlu.kept hk (by simp))
      have cN : W.cell? ⟨N, 13, none⟩ = some kv := cell_at hNN 13 rfl
      have fN : W.frozen? ⟨N, 13, none⟩ = false := fr_all hNN 13
      have q3 : i + 1 ≤ maxLen := by unfold maxLen; omega
      have hbs : w.heap.size ≤ W.heap.size := hK.size
      have JNN : Hid (W.heap[N]? = some (Obj.cells (nodeR kv) 90 (0, 0))) := hNN
      have JRR : Hid (W.heap[R]? = some (Obj.cells (rdA a (pat us).length c (6 * i) i) 56 (0, 0))) := hRR
      have JOW : Hid (W.ownsRow w.heap.size 57 1 kv i (gs.map pv)) := hown
      have JLF : Hid (Leafs W (w.heap.size + 1) gs (us.take i)) := hlf
      have JKK : Hid (Kx [R] w W) := hK
      clear hNN hRR hown hlf hK hlu hkW HNN HOW HLF HKK HLU HW
      go_region_law (first | (refine step_append_lies _ (by rfl) _ _ _ (by rfl) w.heap.size 57 i0 _ 1 8 Tryz.underlying83 hi hz0 hz1 hz2 rfl (by omega) kv i (gs.map pv) (by rfl) ((hk2.owns (JOW.out) (fun q hq hm => hneR (by rw [← List.mem_singleton.1 hm, hq]; simp))).alloc _) ⟨w2.heap.size, 0, none⟩ 1 1 [pv g] (by rfl) (by rfl) (cells_new w2 [pv g] 57) (by intro u hu; rw [List.mem_singleton.1 hu]; rfl) (by omega) q3 (by omega) (by have := hk2.size; simp at this ⊢; omega) (w2.heap.size + 1) (by simp) ?_; intro gg cap w1 hown1 hgrow hat hlt1; have JN4 : Hid (w1.heap[N]? = some (Obj.cells (nodeR kv) 90 (0, 0))) := (Kx.grown hgrow).get (JN3.out _) hne; have cN4 : w1.cell? ⟨N, 13, none⟩ = some kv := cell_at JN4.out 13 rfl; have fN4 : w1.frozen? ⟨N, 13, none⟩ = false := fr_all JN4.out 13) | (go_simp; go_at_call 54; refine (ct _ ?_).mono ?_; (exact (Kx.refl _ _).drw1); rintro e w2 ⟨g, hg, rfl, hn2, hh2, hk2⟩; have JN2 : Hid (w2.heap[N]? = some (Obj.cells (nodeR kv) 90 (0, 0))) := hk2.get (k := N) JNN.out (by simpa using hNR); have JN3 : Hid (∀ o, (w2.alloc o).heap[N]? = some (Obj.cells (nodeR kv) 90 (0, 0))) := fun o => (Kx.alloc [] w2 o).get JN2.out (by simp); have cN2 : w2.cell? ⟨N, 13, none⟩ = some kv := cell_at JN2.out 13 rfl; have cN3 : ∀ o, (w2.alloc o).cell? ⟨N, 13, none⟩ = some kv := fun o => cell_at (JN3.out o) 13 rfl))
      all_goals
        obtain ⟨r1, r2, r3, r4, r5⟩ := row_step HNs.out hRw hlt JNN.out JOW.out JLF.out JKK.out JRR.out hg hn2 hh2 (((Kx.refl [R] W).drw1).same hk2) hown1 hgrow _ rfl
        generalize hW5 : w1.setCell ⟨N, 13, none⟩ (.slice (some ⟨gg, 0, none⟩) (i + 1) cap) = W5 at *
        clear hW5
        go_wp2
        go_roundw
        case rel => exact ⟨i + 1, _, gs ++ [g], by omega, by simp [hgs], r1, r2, r3, r4, r5⟩
        case measure =>
          rw [posOf_rd r2, posOf_rd HRR.out]
          omega
    · obtain rfl : i = us.length := by omega
      have ce := fun m => ended_any (w := wr.drewN m) hRR
      simp only [decide_eq_true (show 6 * us.length = (pat us).length by omega)] at ce
      have HNN : Hid (wr.heap[N]? = some (Obj.cells (nodeR kv) 90 (0, 0))) := hNN
      have HRR : Hid (wr.heap[R]? = some (Obj.cells (rdA a (pat us).length c (6 * us.length) us.length) 56 (0, 0))) := hRR
      have HOW : Hid (wr.ownsRow w.heap.size 57 1 kv us.length (gs.map pv)) := hown
      have HLF : Hid (Leafs wr (w.heap.size + 1) gs (us.take us.length)) := hlf
      have HKK : Hid (Kx [R] w wr) := hK
      clear hNN hRR hown hlf hK hlu
      go_wp2_with (first | (go_at_call 22; refine (ce 0).mono ?_; rintro e w1 ⟨rfl, n1, rfl⟩; clear ce))
      go_ret
      have hkW := Kx.drewN [] wr n1
      have hlf := HLF.out.kept hkW (by simp)
      rw [List.take_length] at hlf
      refine ⟨N, kv, gs, by have := HNs.out; omega, rfl, hkW.get HNN.out (by simp), hkW.owns HOW.out (by simp), ⟨hlf.1, fun j hj => ⟨by have := (hlf.2 j hj).1; omega, (hlf.2 j hj).2⟩⟩, ?_, HKK.out.trans hkW (by simp)⟩
      have := hkW.get HRR.out (by simp)
      rw [← hlen] at this
      exact this
end Go.Proofs.YtpaaladlddifjaaGreatDoor
