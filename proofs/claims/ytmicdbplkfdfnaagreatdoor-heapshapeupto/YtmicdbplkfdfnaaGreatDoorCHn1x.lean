/- names.add. -/
import Derived.Test.YtmicdbplkfdfnaaGreatDoorCHb1x
import Derived.Test.YtmicdbplkfdfnaaGreatDoorCHa3x
import Derived.Deep.RegionHeld3
import Derived.Deep.AppendLies
import Derived.Deep.RegionLaw
set_option linter.unusedVariables false
namespace Go.Proofs.YtmicdbplkfdfnaaGreatDoor
open Go.RowKit Go.Shelf Go.Maps

theorem heap_old {w : World} {k : Nat} {o : Obj} (h : w.heap[k]? = some o) (x : Obj) : (w.alloc x).heap[k]? = some o := (Kx.alloc [] w x).get h (by simp)
theorem row_apart {w : World} {B : Nat} {e : TypeId} {sz : Nat} {v : Value} {n : Nat} {xs : List Value} (ho : w.ownsRow B e sz v n xs) {k : Nat} {cur : Array Value} {t : TypeId} {fr : Nat × Nat} (hk : w.heap[k]? = some (Obj.cells cur t fr)) (ht : t ≠ e) : k ∉ v.ownBlock.toList := by
  intro hm
  cases hv : v.ownBlock with
  | none => rw [hv] at hm; simp at hm
  | some g =>
    rw [hv] at hm
    simp at hm
    exact owns_ne ho hk ht g hv hm.symm
theorem imap_apart {w : World} {M n : Nat} {f : ByteArray → Option Nat} (hm : IMap w M n f) {B : Nat} {e : TypeId} {sz : Nat} {v : Value} {m : Nat} {xs : List Value} (ho : w.ownsRow B e sz v m xs) : some M ≠ v.ownBlock := by
  intro hc
  obtain ⟨D, ⟨es, clock, hb, _⟩, _⟩ := hm
  rcases ho.2 with ⟨rfl, _⟩ | ⟨g', cap, cur, rfl, _, hgg, _⟩
  · cases hc
  · have e2 : M = g' := Option.some.inj hc
    rw [e2, hgg] at hb
    cases hb
theorem info9 : (Tryz.prog.info? 9).map (fun i => (i.zero, i.size, i.bytes)) = some (some (.string ⟨#[]⟩), 1, 16) := by kernel_rfl
set_option maxRecDepth 100000 in
set_option maxHeartbeats 2000000 in
theorem add_any (N M n base : Nat) (v k : Value) (L : List ByteArray) (f : ByteArray → Option Nat) (name : ByteArray) (w : World)
    (hN : w.heap[N]? = some (.cells #[v, .map (some M), k] 121 (0, 0))) (hrow : w.ownsRow base 9 1 v L.length (L.map Value.string)) (hm : IMap w M n f) (hname : name.size ≤ maxLen) (hL : L.length ≤ 1000) (hn : n ≤ 1000) (hbase : base ≤ w.heap.size) :
    Calls Tryz.prog 116 #[.pointer (some ⟨N, 0, none⟩), .string name] w fun e w' => (∃ u, e = .returned u) ∧ ∃ v', w'.heap[N]? = some (.cells #[v', .map (some M), k] 121 (0, 0)) ∧ w'.ownsRow base 9 1 v' (L.length + 1) ((L ++ [name]).map Value.string) ∧ IMap w' M (n + 1) (fun t => if t = name then some L.length else f t) ∧ (∀ g, v'.ownBlock = some g → v.ownBlock = some g ∨ w.heap.size ≤ g) ∧ Kx (N :: M :: v.ownBlock.toList) w w' := by
  obtain ⟨a, c, rfl⟩ : ∃ a c, v = .slice a L.length c := by
    rcases hrow.2 with ⟨rfl, h0⟩ | ⟨g, cap, cur, rfl, _⟩
    · exact ⟨_, _, by rw [h0]⟩
    · exact ⟨_, _, rfl⟩
  have hmd : IMap w.drew M n f := hm
  obtain ⟨w1, hput, hm1, hg1⟩ := imap_put hmd name hname L.length (by omega) (by unfold maxLen; omega)
  have c0 := cell_at hN 0 rfl
  have c1 := cell_at hN 1 rfl
  have hMN : M ≠ N := by
    rintro rfl
    obtain ⟨D, ⟨es, clock, hb, _⟩, _⟩ := hm
    rw [hN] at hb
    cases hb
  have hN1 : w1.heap[N]? = some (.cells #[.slice a L.length c, .map (some M), k] 121 (0, 0)) := (Kx.grown hg1).get (show w.drew.heap[N]? = _ from hN) (by simp; exact fun e => hMN e.symm)
  have d0 := cell_at hN1 0 rfl
  have d1 := cell_at hN1 1 rfl
  have f0 := fr_all hN1 0
  have HM1 : Hid (IMap w1 M (n + 1) (fun t => if t = name then some L.length else f t)) := hm1
  have hk1 : Kx [M] w w1 := (Kx.drew [M] w).trans (Kx.grown hg1) (fun i hi => .inl (by simp at hi; simp [hi]))
  have HK1 : Hid (Kx [M] w w1) := hk1
  have hr1 : w1.ownsRow base 9 1 (.slice a L.length c) L.length (L.map Value.string) := hk1.owns hrow (fun g hg => by
    have := imap_apart hm hrow
    rw [hg] at this
    simp
    exact fun e => this (by rw [e]))
  have HR1 := (show Hid (w1.ownsRow base 9 1 (.slice a L.length c) L.length (L.map Value.string)) from hr1)
  have HN1 := (show Hid (w1.heap[N]? = some (.cells #[.slice a L.length c, .map (some M), k] 121 (0, 0))) from hN1)
  clear hm hmd hm1 hg1 hrow hr1 hk1 hN hN1
  obtain ⟨i0, hi, hz0, hz1, hz2⟩ := info_parts info9
  have q1 : L.length + 1 ≤ maxLen := by unfold maxLen; omega
  have hs1 := HK1.out.size
  go_enter Tryz.func116, Tryz.ntmps116
  go_wp2
  go_region_held3 (fun W : World => W.cell? ⟨N, 0, none⟩ = some (.slice a L.length c) ∧ W.cell? ⟨N, 1, none⟩ = some (.map (some M))) (first | exact ⟨c0, c1⟩ | exact ⟨d0, d1⟩) (fail)
  go_wp2_with (first | (at_builtin; refine wpList_append_lies _ rfl _ _ 22 rfl base 9 i0 (.string ⟨#[]⟩) 1 16 Tryz.underlying22 hi hz0 hz1 hz2 rfl (by decide) _ _ _ rfl (HR1.out.alloc _) ⟨w1.heap.size, 0, none⟩ 1 1 [.string name] rfl rfl (cells_new w1 [.string name] 9) (by intro u hu; simp at hu; rw [hu]; rfl) (by decide) q1 (by omega) (by simp; omega) (w1.heap.size + 1) (by simp) ?_; intro gg cc w3 hown' hgrow hat hlt1; have HAT : Hid ((Value.slice a L.length c).ownBlock = some gg ∨ gg = w1.heap.size + 1) := hat; have hN3 := (Kx.grown hgrow).get (heap_old HN1.out (Obj.cells #[Value.string name] 9)) (row_apart HR1.out HN1.out (by decide)); have e0 := cell_at hN3 0 rfl; have f3 := fr_all hN3 0))
  have HN3 : Hid (w3.heap[N]? = some (.cells #[.slice a L.length c, .map (some M), k] 121 (0, 0))) := hN3
  have HO3 : Hid (w3.ownsRow base 9 1 (.slice (some ⟨gg, 0, none⟩) (L.length + 1) cc) (L.length + 1) (L.map Value.string ++ [.string name])) := hown'
  have hgrow2 : (w1.alloc (Obj.cells #[Value.string name] 9)).grownBy w3 (Value.slice a L.length c).ownBlock := hgrow
  have hk3 : Kx (N :: M :: (Value.slice a L.length c).ownBlock.toList) w w3 := by
    refine ((HK1.out.mono (S := N :: M :: (Value.slice a L.length c).ownBlock.toList) (fun i hi => .inl (by simp at hi; simp [hi]))).alc (Obj.cells #[Value.string name] 9)).trans (Kx.grown hgrow2) (fun i hi => .inl ?_)
    simp only [List.mem_cons]
    exact Or.inr (Or.inr hi)
  have hm3 : IMap w3 M (n + 1) (fun t => if t = name then some L.length else f t) := by
    have h1 := HM1.out
    exact IMap.kept (IMap.kept h1 (World.grownBy_alloc w1 _ none) (by simp)) hgrow2 (imap_apart h1 HR1.out)
  have HM3 := (show Hid _ from hm3)
  have HK3 : Hid (Kx (N :: M :: (Value.slice a L.length c).ownBlock.toList) w w3) := hk3
  clear hN3 hown' hgrow hgrow2 hat hlt1 hm3 hk3 HM1 HK1 HR1 HN1 c0 c1 d0 d1 f0 hput
  refine bodyPost_end (results_none rfl _ _ _) rfl ?_
  refine ⟨⟨_, rfl⟩, _, heap_put HN3.out 0 (.slice (some ⟨gg, 0, none⟩) (L.length + 1) cc), ?_, ?_, fun g hg => ?_, HK3.out.set (by simp) _⟩
  · rw [List.map_append]
    exact (Kx.setCell (S := [N]) w3 (p := ⟨N, 0, none⟩) (by simp) _).owns HO3.out (fun g hg => by
      simp
      exact owns_ne HO3.out HN3.out (by decide) g hg)
  · obtain ⟨D, hO, hD, hf⟩ := HM3.out
    obtain ⟨es, clock, hb, rest⟩ := hO
    exact ⟨D, ⟨es, clock, (Kx.setCell (S := [N]) w3 (p := ⟨N, 0, none⟩) (by simp) _).get hb (by simp; exact hMN), rest⟩, hD, hf⟩
  · have e : gg = g := by simpa [Value.ownBlock] using hg
    rcases HAT.out with h | h
    · exact .inl (by rw [h, e])
    · exact .inr (by rw [← e, h]; omega)
end Go.Proofs.YtmicdbplkfdfnaaGreatDoor
set_option linter.unusedVariables false
namespace Go.Proofs.YtmicdbplkfdfnaaGreatDoor
open Go.RowKit Go.Shelf Go.Maps

def pfR : List ByteArray → ByteArray → Option Nat
  | [], _ => none
  | x :: r, t => if t = x then some r.length else pfR r t
/-- Where a name stands, the last one. -/
def pf (L : List ByteArray) : ByteArray → Option Nat := pfR L.reverse
theorem pf_nil : pf [] = fun _ => none := rfl
theorem pf_snoc (L : List ByteArray) (x : ByteArray) : pf (L ++ [x]) = fun t => if t = x then some L.length else pf L t := by
  funext t
  unfold pf
  rw [List.reverse_append]
  simp [pfR]
theorem run_makeMapN {P : Program} (t k e : TypeId) (ht : P.underlying t = some (.map k e)) (q : IntKind) (n : Int) (w : World) : (Instr.makeMap t (some (.int q n))).run P w = .ok (.map (some w.heap.size)) (w.alloc (.map #[] 0)) := by
  simp [Instr.makeMap, run_underlying ht, asInt, asIntOf]
theorem owns_slice {w : World} {B : Nat} {e : TypeId} {sz : Nat} {v : Value} {n : Nat} {xs : List Value} (h : w.ownsRow B e sz v n xs) : ∃ a c, v = .slice a n c := by
  rcases h.2 with ⟨rfl, h0⟩ | ⟨g, cap, cur, rfl, _⟩
  · exact ⟨_, _, by rw [h0]⟩
  · exact ⟨_, _, rfl⟩
theorem owns_low {w : World} {B B' : Nat} {e : TypeId} {sz : Nat} {v : Value} {n : Nat} {xs : List Value} (h : w.ownsRow B e sz v n xs) (hB : B' ≤ B) : w.ownsRow B' e sz v n xs := by
  obtain ⟨h1, h2⟩ := h
  refine ⟨h1, ?_⟩
  rcases h2 with h2 | ⟨g, cap, cur, rfl, hb, rest⟩
  · exact .inl h2
  · exact .inr ⟨g, cap, cur, rfl, Nat.le_trans hB hb, rest⟩
theorem below_grown' {w w' : World} (h : Below w.heap.size w w') : w.grownBy w' none := ⟨h.os, h.tape, h.output, h.size, fun k hk _ => h.block k hk⟩
theorem clone_any (a : Option Addr) (cc c : Nat) (L : List ByteArray) (hc : c ≤ L.length) (hL : L.length ≤ 1000) (W : World) (base : Nat) (hrow : W.ownsRow base 9 1 (.slice a L.length cc) L.length (L.map Value.string)) :
    Calls Tryz.prog 149 #[.slice a c cc] W fun e w' => ∃ v', e = .returned v' ∧ w'.ownsRow W.heap.size 9 1 v' c ((L.take c).map Value.string) ∧ Below W.heap.size W w' := by
  rcases hrow.2 with ⟨e, h0⟩ | ⟨g, cap, cur, e, _, hg, h1, h2, h3, h4⟩
  · simp only [Value.slice.injEq] at e
    obtain ⟨rfl, _, rfl⟩ := e
    have hc0 : c = 0 := by omega
    subst hc0
    refine (Tryz.slices_Clone_string_nil 0 0 W).mono ?_
    rintro e w' ⟨rfl, rfl⟩
    exact ⟨_, rfl, World.ownsRow_nil _ _ _ _, Below.refl _ _⟩
  · simp only [Value.slice.injEq] at e
    obtain ⟨rfl, _, rfl⟩ := e
    refine (Tryz.slices_Clone_string g 0 c cc L W hc (by omega) ?_).mono ?_
    · intro j hj
      have := hrow.cells (g := g) rfl j (.string (L[j])) (by rw [List.getElem?_map, List.getElem?_eq_getElem hj]; rfl)
      rw [Addr.add_lit] at this
      rw [this, List.getD_eq_getElem?_getD, List.getElem?_eq_getElem hj]
      rfl
    · rintro e w' ⟨v', rfl, h5, _, h6⟩
      exact ⟨v', rfl, h5, h6⟩
set_option maxRecDepth 100000 in
set_option maxHeartbeats 2000000 in
theorem part_any (N : Nat) (v m k : Value) (L : List ByteArray) (c : Nat) (w : World) (base : Nat)
    (hN : w.heap[N]? = some (.cells #[v, m, k] 121 (0, 0))) (hrow : w.ownsRow base 9 1 v L.length (L.map Value.string)) (hc : c ≤ L.length) (hL : L.length ≤ 1000) (hs : ∀ s ∈ L, s.size ≤ maxLen) :
    Calls Tryz.prog 119 #[.pointer (some ⟨N, 0, none⟩), .int .i64 (c : Int)] w fun e w' => ∃ N' M' v', e = .returned (.pointer (some ⟨N', 0, none⟩)) ∧ w.heap.size ≤ N' ∧ w.heap.size ≤ M' ∧ w'.heap[N']? = some (.cells #[v', .map (some M'), .int .i64 0] 121 (0, 0)) ∧ w'.ownsRow w.heap.size 9 1 v' c ((L.take c).map Value.string) ∧ IMap w' M' c (pf (L.take c)) ∧ Below w.heap.size w w' := by
  have hmm := fun (n : Int) (w : World) => run_makeMapN (P := Tryz.prog) 119 9 3 Tryz.underlying119 .i64 n w
  have c0 := cell_at hN 0 rfl
  obtain ⟨a, cc, rfl⟩ : ∃ a c, v = .slice a L.length c := by
    rcases hrow.2 with ⟨rfl, h0⟩ | ⟨g, cap, cur, rfl, _⟩
    · exact ⟨_, _, by rw [h0]⟩
    · exact ⟨_, _, rfl⟩
  have CL : Hid (∀ W, Below w.heap.size w W → Calls Tryz.prog 149 #[.slice a c cc] W fun e w' => ∃ v', e = .returned v' ∧ w'.ownsRow W.heap.size 9 1 v' c ((L.take c).map Value.string) ∧ Below W.heap.size W w') := fun W hW => clone_any a cc c L hc hL W base ((Kx.ofBelow hW []).owns hrow (fun g hg => by simp))
  have k1 : (c : Int) ≤ (L.length : Int) := by omega
  have hlt := lt_get hN
  have hac : a = none → c = 0 ∧ cc = 0 := by
    rintro rfl
    rcases hrow.2 with ⟨e, h0⟩ | ⟨g, cap, cur, e, _⟩
    · simp only [Value.slice.injEq] at e
      exact ⟨by omega, e.2.2⟩
    · cases e
  have hcc : c ≤ cc := by
    rcases hrow.2 with ⟨e, h0⟩ | ⟨g, cap, cur, e, _, _, h1, _⟩
    · omega
    · simp only [Value.slice.injEq] at e
      omega
  have HS := (show Hid (∀ s ∈ L, s.size ≤ maxLen) from hs)
  clear hrow hN hs hac
  go_enter Tryz.func119, Tryz.ntmps119
  go_wp2
  rename_i K hK
  suffices REST : ∀ (N' M' c2 : Nat) (a2 : Option Addr) (W : World), w.heap.size ≤ N' → w.heap.size ≤ M' → W.heap[N']? = some (.cells #[.slice a2 c c2, .map (some M'), .int .i64 0] 121 (0, 0)) → W.ownsRow w.heap.size 9 1 (.slice a2 c c2) c ((L.take c).map Value.string) → IMap W M' 0 (fun _ => none) → Below w.heap.size w W →
      K { tmps := #[.pointer (some ⟨N, 0, none⟩), .int .i64 (c : Int), undef, undef, .pointer none, .pointer (some ⟨N', 0, none⟩), undef, undef, .pointer (some ⟨N, 0, none⟩), .pointer (some ⟨N, 0, none⟩), .pointer (some ⟨N, 0, none⟩), .slice a L.length cc, .int .i64 (c : Int), .slice a c cc, .slice a2 c c2, .int .i64 (c : Int), .map (some M'), .agg #[.slice a2 c c2, .map (some M'), .int .i64 0], .pointer (some ⟨N', 0, none⟩), undef, undef, undef, undef, undef, undef, undef, undef, undef, undef, undef, undef, undef, undef, undef, undef, undef, undef], defers := [] } W by
    go_region_held3 (fun W : World => W.cell? ⟨N, 0, none⟩ = some (.slice a L.length cc)) (first | exact c0 | exact (World.cell?_alloc_lt _ _ ⟨N, 0, none⟩ hlt).trans c0 | exact (hb2.cell (p := ⟨N, 0, none⟩) hlt).trans c0 | exact (hb2.cell (p := ⟨N, 0, none⟩) (Nat.lt_of_lt_of_le hlt (by simp))).trans ((World.cell?_alloc_lt _ _ ⟨N, 0, none⟩ hlt).trans c0) | exact (World.cell?_alloc_lt _ _ ⟨N, 0, none⟩ (Nat.lt_of_lt_of_le hlt hb2.size)).trans ((hb2.cell (p := ⟨N, 0, none⟩) hlt).trans c0) | exact (World.cell?_alloc_lt _ _ ⟨N, 0, none⟩ (Nat.lt_of_lt_of_le hlt (Nat.le_trans (by simp) hb2.size))).trans ((hb2.cell (p := ⟨N, 0, none⟩) (Nat.lt_of_lt_of_le hlt (by simp))).trans ((World.cell?_alloc_lt _ _ ⟨N, 0, none⟩ hlt).trans c0)) | exact (World.cell?_alloc_lt _ _ ⟨N, 0, none⟩ (Nat.lt_of_lt_of_le hlt (Nat.le_trans hb2.size (by simp)))).trans ((World.cell?_alloc_lt _ _ ⟨N, 0, none⟩ (Nat.lt_of_lt_of_le hlt hb2.size)).trans ((hb2.cell (p := ⟨N, 0, none⟩) hlt).trans c0))) (first | (go_simp; go_at_call 149; refine (CL.out _ (by first | exact (Below.refl _ _).drew | exact ((Below.refl _ _).alloc (Nat.le_refl _) _).drew)).mono ?_; rintro e w2 ⟨v2, rfl, hr2, hb2⟩; obtain ⟨a2, c2, rfl⟩ := owns_slice hr2))
    · have hi0 := imap_made w2
      have hbw : Below w.heap.size w w2 := (Below.refl _ _).drew.trans hb2
      exact REST (w2.heap.size + 1) w2.heap.size c2 a2 _ (by have := hbw.size; omega) hbw.size
        (by have e : (w2.alloc (Obj.map #[] 0)).heap.size = w2.heap.size + 1 := by simp
            rw [← e]; exact heap_alloc_new _ _)
        (((Kx.alloc [] w2 _).alc _).owns hr2 (fun g hg => by simp)) (hi0.kept (World.grownBy_alloc _ _ none) (by simp)) ((hbw.alloc hbw.size _).alloc (by have := hbw.size; simp; omega) _)
    · have hbz : Below w.heap.size w (w.alloc (Obj.map #[] 0)) := (Below.refl _ _).alloc (Nat.le_refl _) _
      have hi0 : IMap (w.alloc (Obj.map #[] 0)) w.heap.size 0 (fun _ => none) := imap_made w
      have hbw : Below w.heap.size w w2 := hbz.drew.trans (hb2.mono (by simp))
      have hr3 : w2.ownsRow w.heap.size 9 1 (.slice a2 c c2) c ((L.take c).map Value.string) := owns_low hr2 (by simp)
      exact REST w2.heap.size w.heap.size c2 a2 _ hbw.size (Nat.le_refl _) (heap_alloc_new _ _)
        ((Kx.alloc [] w2 _).owns hr3 (fun g hg => by simp)) ((hi0.kept (below_grown' (w := w.alloc (Obj.map #[] 0)) ⟨hb2.os, hb2.tape, hb2.output, hb2.size, hb2.block⟩) (by simp)).kept (World.grownBy_alloc _ _ none) (by simp)) (hbw.alloc hbw.size _)
  intro N' M' c2 a2 W hN' hM' hNN hRR hMM hBB
  have e0 := cell_at hNN 0 rfl
  have HNN := (show Hid (W.heap[N']? = some (.cells #[.slice a2 c c2, .map (some M'), .int .i64 0] 121 (0, 0))) from hNN)
  have HRR := (show Hid (W.ownsRow w.heap.size 9 1 (.slice a2 c c2) c ((L.take c).map Value.string)) from hRR)
  have HMM := (show Hid (IMap W M' 0 (fun _ => none)) from hMM)
  have HBB := (show Hid (Below w.heap.size w W) from hBB)
  clear hNN hRR hMM hBB CL c0 hmm
  apply hK
  clear hK
  go_wp2
  clear e0
  go_loopw [6, 7, 24] (fun _ _ i wr => ∃ k : Nat, k ≤ c ∧ i = .int .i64 k ∧ Hid (wr.heap[N']? = some (.cells #[.slice a2 c c2, .map (some M'), .int .i64 0] 121 (0, 0)) ∧ wr.ownsRow w.heap.size 9 1 (.slice a2 c c2) c ((L.take c).map Value.string) ∧ IMap wr M' k (pf ((L.take c).take k)) ∧ Below w.heap.size w wr))
    (fun _ _ i _ => c - (intOf i).toNat)
  case atStart => exact ⟨0, Nat.zero_le _, rfl, (show _ ∧ _ ∧ _ ∧ _ from ⟨HNN.out, HRR.out, HMM.out, HBB.out⟩)⟩
  case round =>
    obtain ⟨q, hq, rfl, hH⟩ := hrel
    obtain ⟨r1, r2, r3, r4⟩ := hH.out
    clear hH HNN HRR HMM HBB
    by_cases hlt2 : q < c
    · obtain ⟨g, cg, ea⟩ := ownsRow_pos (by omega) r2
      simp only [Value.slice.injEq] at ea
      obtain ⟨rfl, _, _⟩ := ea
      obtain ⟨x, hx⟩ : ∃ x, (L.take c)[q]? = some x := ⟨_, List.getElem?_eq_getElem (by rw [List.length_take]; omega)⟩
      have hxs : x.size ≤ maxLen := HS.out x (List.mem_of_mem_take (List.mem_of_getElem? hx))
      have hcell : wr.cell? ⟨g, q, none⟩ = some (.string x) := by
        have := r2.cells (g := g) rfl q (.string x) (by rw [List.getElem?_map, hx]; rfl)
        rw [Addr.add_lit, Nat.zero_add] at this
        exact this
      have e1 := cell_at r1 1 rfl
      obtain ⟨w3, hput, r3', hg3⟩ := imap_put r3 x hxs q (by omega) (by unfold maxLen; omega)
      have hk3 : Kx [M'] wr w3 := Kx.mono (Kx.grown hg3) (fun i hi => .inl (by simp at hi; simp [hi]))
      have hMN : M' ≠ N' := by
        rintro rfl
        obtain ⟨D, ⟨es, clock, hb, _⟩, _⟩ := r3
        rw [r1] at hb
        cases hb
      have r1' := hk3.get r1 (by simp; exact fun e => hMN e.symm)
      have r2' := hk3.owns r2 (fun g' hg' => by
        have := imap_apart r3 r2
        rw [hg'] at this
        simp
        exact fun e => this (by rw [e]))
      have r4' : Below w.heap.size w w3 := r4.trans (hk3.below r4.size (fun i hi => by simp at hi; omega))
      have hsn : (L.take c).take (q + 1) = (L.take c).take q ++ [x] := by rw [List.take_add_one, hx]; rfl
      have hlq : ((L.take c).take q).length = q := by rw [List.length_take, List.length_take]; omega
      have r3'' : IMap w3 M' (q + 1) (pf ((L.take c).take (q + 1))) := by rw [hsn, pf_snoc, hlq]; exact r3'
      have HH : Hid (w3.heap[N']? = some (.cells #[.slice (some ⟨g, 0, none⟩) c c2, .map (some M'), .int .i64 0] 121 (0, 0)) ∧ w3.ownsRow w.heap.size 9 1 (.slice (some ⟨g, 0, none⟩) c c2) c ((L.take c).map Value.string) ∧ IMap w3 M' (q + 1) (pf ((L.take c).take (q + 1))) ∧ Below w.heap.size w w3) := ⟨r1', r2', r3'', r4'⟩
      clear r1 r2 r3 r4 r1' r2' r3' r3'' r4' hg3 hk3 hsn hlq hx hxs
      go_wp2
      go_roundw
      case rel => exact ⟨q + 1, by omega, by go_num, HH⟩
      case measure => simp [intOf]; omega
    · have hqc : q = c := by omega
      subst hqc
      have HH : Hid (wr.heap[N']? = some (.cells #[.slice a2 q c2, .map (some M'), .int .i64 0] 121 (0, 0)) ∧ wr.ownsRow w.heap.size 9 1 (.slice a2 q c2) q ((L.take q).map Value.string) ∧ IMap wr M' q (pf ((L.take q).take q)) ∧ Below w.heap.size w wr) := ⟨r1, r2, r3, r4⟩
      clear r1 r2 r3 r4
      go_wp2
      go_ret
      obtain ⟨r1, r2, r3, r4⟩ := HH.out
      rw [List.take_take, Nat.min_self] at r3
      exact ⟨N', M', _, rfl, hN', hM', r1, r2, r3, r4⟩
end Go.Proofs.YtmicdbplkfdfnaaGreatDoor
set_option linter.unusedVariables false
namespace Go.Proofs.YtmicdbplkfdfnaaGreatDoor
open Go.RowKit Go.Shelf Go.Maps

theorem mapNil_no (X : Nat) (w : World) : (binOp .eql 116 (.map (some X)) (.map none)).run Tryz.prog w = .ok (.bool false) w := by kernel_rfl
theorem mapNil_yes (w : World) : (binOp .eql 116 (.map none) (.map none)).run Tryz.prog w = .ok (.bool true) w := by kernel_rfl
theorem cells_ne {w : World} {a b : Nat} {C D : Array Value} {t u : TypeId} {f g : Nat × Nat} (h : w.heap[a]? = some (.cells C t f)) (k : w.heap[b]? = some (.cells D u g)) (ht : t ≠ u) : a ≠ b := by
  rintro rfl
  rw [h] at k
  simp at k
  exact ht k.2.1
theorem imap_cells {w : World} {M n : Nat} {f : ByteArray → Option Nat} (hm : IMap w M n f) {b : Nat} {C : Array Value} {t : TypeId} {g : Nat × Nat} (h : w.heap[b]? = some (.cells C t g)) : b ≠ M := by
  rintro rfl
  obtain ⟨D, ⟨es, clock, hb, _⟩, _⟩ := hm
  rw [h] at hb
  cases hb
theorem pmap_cells {w : World} {M n : Nat} {f : Stp → Option Nat} (hm : PMap w M n f) {b : Nat} {C : Array Value} {t : TypeId} {g : Nat × Nat} (h : w.heap[b]? = some (.cells C t g)) : b ≠ M := by
  rintro rfl
  obtain ⟨D, ⟨es, clock, hb, _⟩, _⟩ := hm
  rw [h] at hb
  cases hb
theorem pmap_apart {w : World} {M n : Nat} {f : Stp → Option Nat} (hm : PMap w M n f) {B : Nat} {e : TypeId} {sz : Nat} {v : Value} {m : Nat} {xs : List Value} (ho : w.ownsRow B e sz v m xs) : M ∉ v.ownBlock.toList := by
  intro hc
  rcases ho.2 with ⟨rfl, _⟩ | ⟨g', cap, cur, rfl, _, hgg, _⟩
  · cases hc
  · have e2 : M = g' := by simpa [Value.ownBlock] using hc
    rw [← e2] at hgg
    exact pmap_cells hm hgg rfl
theorem Kx.pmap {S : List Nat} {w w' : World} (h : Kx S w w') {b n : Nat} {f : Stp → Option Nat} (hm : PMap w b n f) (hb : b ∉ S) : PMap w' b n f := by
  obtain ⟨D, ⟨es, clock, hh, rest⟩, hD⟩ := hm
  exact ⟨D, ⟨es, clock, h.get hh hb, rest⟩, hD⟩
theorem Kx.imap {S : List Nat} {w w' : World} (h : Kx S w w') {b n : Nat} {f : ByteArray → Option Nat} (hm : IMap w b n f) (hb : b ∉ S) : IMap w' b n f := by
  obtain ⟨D, ⟨es, clock, hh, rest⟩, hD⟩ := hm
  exact ⟨D, ⟨es, clock, h.get hh hb, rest⟩, hD⟩
/-- Block N is names: its list, its map, what the collector counted. -/
def NamesAt (w : World) (base N M n : Nat) (v k : Value) (L : List ByteArray) : Prop :=
  w.heap[N]? = some (.cells #[v, .map (some M), k] 121 (0, 0)) ∧ w.ownsRow base 9 1 v L.length (L.map Value.string) ∧ IMap w M n (pf L)
set_option maxRecDepth 100000 in
set_option maxHeartbeats 2000000 in
theorem grow_one (S N M n base cnt : Nat) (v k fr nx : Value) (al kp : Bool) (L : List ByteArray) (p : Stp) (w : World)
    (hS : w.heap[S]? = some (.cells #[.pointer (some ⟨N, 0, none⟩), .int .i64 (cnt : Int), fr, nx, .bool al, .bool kp] 118 (0, 0)))
    (hN : NamesAt w base N M n v k L) (hc : L.length = cnt) (hL : L.length ≤ 1000) (hn : n ≤ 1000) (hp : p.1.size ≤ maxLen) (hbase : base ≤ w.heap.size)
    (X nX : Nat) (fX : Stp → Option Nat) (hX : nx = .map (some X) ∧ PMap w X nX fX) (hnX : nX ≤ 1000) (hMX : M ≠ X) :
    Calls Tryz.prog 118 #[.pointer (some ⟨S, 0, none⟩), stpV p] w fun e w' => (∃ u, e = .returned u) ∧ ∃ S' v', w.heap.size ≤ S' ∧ w'.heap[S']? = some (.cells #[.pointer (some ⟨N, 0, none⟩), .int .i64 ((cnt : Int) + 1), .pointer (some ⟨S, 0, none⟩), .map none, .bool false, .bool false] 118 (0, 0)) ∧ PMap w' X (nX + 1) (fun t => if t = p then some S' else fX t) ∧ NamesAt w' base N M (n + 1) v' k (L ++ [p.1]) ∧ (∀ g, v'.ownBlock = some g → v.ownBlock = some g ∨ w.heap.size ≤ g) ∧ Kx (X :: N :: M :: v.ownBlock.toList) w w' := by
  obtain ⟨rfl, hPX⟩ := hX
  obtain ⟨h1, h2, h3⟩ := hN
  obtain ⟨a, cc, rfl⟩ := owns_slice h2
  obtain ⟨ps, pa, pb, pc, pd⟩ := p
  unfold stpV stepV
  dsimp only
  dsimp only at hp
  obtain ⟨W0, hW0⟩ : ∃ W0, W0 = w.alloc (Obj.cells #[.string ps, .bool pa, .bool pb, .bool pc, .bool pd] 169) := ⟨_, rfl⟩
  have hS0 : W0.heap[S]? = some (.cells #[.pointer (some ⟨N, 0, none⟩), .int .i64 (cnt : Int), fr, .map (some X), .bool al, .bool kp] 118 (0, 0)) := by rw [hW0]; exact heap_old hS _
  have hN0 : W0.heap[N]? = some (.cells #[.slice a L.length cc, .map (some M), k] 121 (0, 0)) := by rw [hW0]; exact heap_old h1 _
  have hP0 : W0.heap[w.heap.size]? = some (Obj.cells #[.string ps, .bool pa, .bool pb, .bool pc, .bool pd] 169 (0, 0)) := by rw [hW0]; exact heap_alloc_new _ _
  have hr0 : W0.ownsRow base 9 1 (.slice a L.length cc) L.length (L.map Value.string) := by rw [hW0]; exact (Kx.alloc [] w _).owns h2 (fun g hg => by simp)
  have hm0 : IMap W0 M n (pf L) := by rw [hW0]; exact h3.kept (World.grownBy_alloc _ _ none) (by simp)
  have hx0 : PMap W0 X nX fX := by rw [hW0]; exact hPX.kept (World.grownBy_alloc _ _ none) (by simp)
  have hk0 : Kx [] w W0 := by rw [hW0]; exact Kx.alloc _ _ _
  have c0 := cell_at hS0 0 rfl
  have c1 := cell_at hS0 1 rfl
  have d0 := cell_at hN0 0 rfl
  have q0 := cell_at hP0 0 rfl
  have ca := fun q => add_any N M n base (.slice a L.length cc) k L (pf L) ps (W0.drewN q) (show (W0.drewN q).heap[N]? = _ from hN0) (show (W0.drewN q).ownsRow _ _ _ _ _ _ from hr0) (show IMap (W0.drewN q) _ _ _ from hm0) hp hL hn (Nat.le_trans hbase hk0.size)
  have hSN : S ≠ N := cells_ne hS0 hN0 (by decide)
  have hSM : S ≠ M := imap_cells hm0 hS0
  have hSr : S ∉ (Value.slice a L.length cc).ownBlock.toList := row_apart hr0 hS0 (by decide)
  have hPN : w.heap.size ≠ N := cells_ne hP0 hN0 (by decide)
  have hPM : w.heap.size ≠ M := imap_cells hm0 hP0
  have hPr : w.heap.size ∉ (Value.slice a L.length cc).ownBlock.toList := row_apart hr0 hP0 (by decide)
  have hNX : N ≠ X := pmap_cells hx0 hN0
  have hXr : X ∉ (Value.slice a L.length cc).ownBlock.toList := pmap_apart hx0 hr0
  have hSX : S ≠ X := pmap_cells hx0 hS0
  have hPX2 : w.heap.size ≠ X := pmap_cells hx0 hP0
  have FS : Hid (S ∉ N :: M :: (Value.slice a L.length cc).ownBlock.toList) := by
    show S ∉ _
    simp only [List.mem_cons, not_or]
    exact ⟨hSN, hSM, hSr⟩
  have FP : Hid (w.heap.size ∉ N :: M :: (Value.slice a L.length cc).ownBlock.toList) := by
    show w.heap.size ∉ _
    simp only [List.mem_cons, not_or]
    exact ⟨hPN, hPM, hPr⟩
  have FX : Hid (X ∉ N :: M :: (Value.slice a L.length cc).ownBlock.toList) := by
    show X ∉ _
    simp only [List.mem_cons, not_or]
    exact ⟨fun e => hNX e.symm, fun e => hMX e.symm, hXr⟩
  have FSX : Hid (S ≠ X ∧ w.heap.size ≠ X ∧ N ≠ X) := ⟨hSX, hPX2, hNX⟩
  have CA := (show Hid _ from ca)
  have HS0 := (show Hid _ from hS0)
  have HP0 := (show Hid _ from hP0)
  have HX0 := (show Hid _ from hx0)
  have HK0 := (show Hid _ from hk0)
  have kg : ¬ (cnt : Int) < (L.length : Int) := by omega
  rw [hW0] at c0 c1 d0 q0
  clear hSN hSM hSr hPN hPM hPr hNX hXr hSX hPX2 h1 h2 h3 hS hS0 hN0 hP0 hr0 hm0 hx0 hk0 ca hPX
  go_enter Tryz.func118, Tryz.ntmps118
  go_wp2
  rw [← hW0] at *
  clear hW0
  go_quiet (fail)
  go_wp2_with (first | (go_at_call 116; fail))
  refine (CA.out nq).mono ?_
  rintro e w1 ⟨⟨u, rfl⟩, v', hN1, hr1, hm1, hv1, hk1⟩
  have HV1 := (show Hid _ from hv1)
  clear hv1
  clear CA c0 c1 d0 q0
  have hS1 : w1.heap[S]? = some (.cells #[.pointer (some ⟨N, 0, none⟩), .int .i64 (cnt : Int), fr, .map (some X), .bool al, .bool kp] 118 (0, 0)) := hk1.get (show (W0.drewN nq).heap[S]? = _ from HS0.out) FS.out
  have hP1 : w1.heap[w.heap.size]? = some (Obj.cells #[.string ps, .bool pa, .bool pb, .bool pc, .bool pd] 169 (0, 0)) := hk1.get (show (W0.drewN nq).heap[w.heap.size]? = _ from HP0.out) FP.out
  have hx1 : PMap w1 X nX fX := hk1.pmap (show PMap (W0.drewN nq) X nX fX from HX0.out) FX.out
  have c0 := cell_at hS1 0 rfl
  have c1 := cell_at hS1 1 rfl
  have c3 := cell_at hS1 3 rfl
  have p0 := cell_at hP1 0 rfl
  have p1 := cell_at hP1 1 rfl
  have p2 := cell_at hP1 2 rfl
  have p3 := cell_at hP1 3 rfl
  have p4 := cell_at hP1 4 rfl
  have hx2a : PMap (w1.alloc (Obj.cells #[.pointer (some ⟨N, 0, none⟩), .int .i64 ((cnt : Int) + 1), .pointer (some ⟨S, 0, none⟩), .map none, .bool false, .bool false] 118)) X nX fX := hx1.kept (World.grownBy_alloc _ _ none) (by simp)
  have hx2 : PMap ((w1.alloc (Obj.cells #[.pointer (some ⟨N, 0, none⟩), .int .i64 ((cnt : Int) + 1), .pointer (some ⟨S, 0, none⟩), .map none, .bool false, .bool false] 118)).drew) X nX fX := hx2a
  obtain ⟨w3, hput, hx3, hg3⟩ := pmap_put hx2 (ps, pa, pb, pc, pd) hp w1.heap.size (by unfold maxLen; omega)
  have hput' : (Instr.mapUpdate 116 (.map (some X)) (.agg #[.string ps, .bool pa, .bool pb, .bool pc, .bool pd]) (.pointer (some ⟨w1.heap.size, 0, none⟩))).run Tryz.prog ((w1.alloc (Obj.cells #[.pointer (some ⟨N, 0, none⟩), .int .i64 ((cnt : Int) + 1), .pointer (some ⟨S, 0, none⟩), .map none, .bool false, .bool false] 118)).drew) = .ok () w3 := hput
  have wc : IntKind.i64.wrap ((cnt : Int) + 1) = (cnt : Int) + 1 := by rw [IntKind.wrap_i64]; omega
  have hne := mapNil_no X
  have hks : Kx [] w1 ((w1.alloc (Obj.cells #[.pointer (some ⟨N, 0, none⟩), .int .i64 ((cnt : Int) + 1), .pointer (some ⟨S, 0, none⟩), .map none, .bool false, .bool false] 118)).drew) := (Kx.alloc _ _ _).drw1
  have hS2 := hks.get hS1 (by simp)
  have hP2 := hks.get hP1 (by simp)
  have hS3 : w3.heap[S]? = _ := (Kx.grown hg3).get hS2 (by simp; exact FSX.out.1)
  have hP3 : w3.heap[w.heap.size]? = _ := (Kx.grown hg3).get hP2 (by simp; exact FSX.out.2.1)
  have HS3 := (show Hid _ from hS3)
  have HX1 : Hid (PMap w1 X nX fX) := hx1
  have HKS := (show Hid _ from hks)
  have HX3 := (show Hid _ from hx3)
  have HG3 := (show Hid _ from hg3)
  have HK1 := (show Hid _ from hk1)
  have HN1 := (show Hid _ from hN1)
  have HR1 := (show Hid _ from hr1)
  have HM1 := (show Hid _ from hm1)
  have s1 := cell_at hS2 1 rfl
  have s3 := cell_at hS2 3 rfl
  have t0 := cell_at hP2 0 rfl
  have t1 := cell_at hP2 1 rfl
  have t2 := cell_at hP2 2 rfl
  have t3 := cell_at hP2 3 rfl
  have t4 := cell_at hP2 4 rfl
  have u1 := cell_at hS3 1 rfl
  have u3 := cell_at hS3 3 rfl
  have v0 := cell_at hP3 0 rfl
  have v1 := cell_at hP3 1 rfl
  have v2 := cell_at hP3 2 rfl
  have v3 := cell_at hP3 3 rfl
  have v4 := cell_at hP3 4 rfl
  clear hput hx3 hg3 hk1 hN1 hr1 hm1 hx2 hx2a hx1 hS1 hP1 hS2 hP2 hS3 hP3 hks
  go_wp2
  go_region_held3 (fun Z : World => Z.cell? ⟨S, 1, none⟩ = some (.int .i64 (cnt : Int)) ∧ Z.cell? ⟨S, 3, none⟩ = some (.map (some X)) ∧ Z.cell? ⟨w.heap.size, 0, none⟩ = some (.string ps) ∧ Z.cell? ⟨w.heap.size, 1, none⟩ = some (.bool pa) ∧ Z.cell? ⟨w.heap.size, 2, none⟩ = some (.bool pb) ∧ Z.cell? ⟨w.heap.size, 3, none⟩ = some (.bool pc) ∧ Z.cell? ⟨w.heap.size, 4, none⟩ = some (.bool pd)) (first | exact ⟨c1, c3, p0, p1, p2, p3, p4⟩ | exact ⟨s1, s3, t0, t1, t2, t3, t4⟩ | exact ⟨u1, u3, v0, v1, v2, v3, v4⟩) (fail)
  refine bodyPost_end (results_none rfl _ _ _) rfl ?_
  have hk01 : Kx (X :: N :: M :: (Value.slice a L.length cc).ownBlock.toList) w w1 := (HK0.out.mono (fun i hi => by cases hi)).trans (((Kx.drewN _ W0 nq).trans HK1.out (fun i hi => .inl hi) : Kx (N :: M :: (Value.slice a L.length cc).ownBlock.toList) W0 w1)) (fun i hi => .inl (List.mem_cons_of_mem _ hi))
  have hk3 : Kx [X] w1 w3 := (HKS.out.mono (fun i hi => by cases hi)).trans (Kx.grown HG3.out) (fun i hi => .inl (by simp at hi; simp [hi]))
  have hlt1 : X < w1.heap.size := HX1.out.lt
  refine ⟨⟨_, rfl⟩, w1.heap.size, v', hk01.size, (Kx.grown HG3.out).get (show ((w1.alloc _).drew).heap[w1.heap.size]? = _ from heap_alloc_new _ _) (by simp; omega), HX3.out, ⟨hk3.get HN1.out (by simp; exact FSX.out.2.2), ?_, ?_⟩, (fun g hg => (HV1.out g hg).elim Or.inl (fun h => .inr (Nat.le_trans HK0.out.size h))), hk01.trans hk3 (fun i hi => .inl (by simp at hi; simp [hi]))⟩
  · have e : (L ++ [ps]).length = L.length + 1 := by simp
    rw [e]
    refine hk3.owns HR1.out (fun g hg => ?_)
    have := pmap_apart HX1.out HR1.out
    rw [hg] at this
    simp at this ⊢
    exact fun e => this e.symm
  · rw [pf_snoc]
    exact hk3.imap HM1.out (by simp; exact hMX)
end Go.Proofs.YtmicdbplkfdfnaaGreatDoor
