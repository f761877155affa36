/- Shape.grow, where another step was taken from here, and the shape has no followers. -/
import Derived.Test.YtmicdbplkfdfnaaGreatDoorCHn4x
set_option linter.unusedVariables false
namespace Go.Proofs.YtmicdbplkfdfnaaGreatDoor
open Go.RowKit Go.Shelf Go.Maps

set_option maxRecDepth 100000 in
set_option maxHeartbeats 2000000 in
theorem growP_nil (S N M n base cnt : Nat) (v k fr nx : Value) (al kp : Bool) (L : List ByteArray) (p : Stp) (w : World)
    (hS : w.heap[S]? = some (.cells #[.pointer (some ⟨N, 0, none⟩), .int .i64 (cnt : Int), fr, nx, .bool al, .bool kp] 118 (0, 0)))
    (hN : NamesAt w base N M n v k L) (hc : cnt < L.length) (hs : ∀ s ∈ L, s.size ≤ maxLen) (hL : L.length ≤ 1000) (hn : n ≤ 1000) (hp : p.1.size ≤ maxLen) (hbase : base ≤ w.heap.size)
    (hX : nx = .map none) :
    Calls Tryz.prog 118 #[.pointer (some ⟨S, 0, none⟩), stpV p] w fun e w' => (∃ u, e = .returned u) ∧ ∃ S' X N' M' v', w.heap.size ≤ S' ∧ w.heap.size ≤ X ∧ w.heap.size ≤ N' ∧ w.heap.size ≤ M' ∧ M' ≠ X ∧ w'.heap[S]? = some (.cells #[.pointer (some ⟨N, 0, none⟩), .int .i64 (cnt : Int), fr, .map (some X), .bool al, .bool kp] 118 (0, 0)) ∧ w'.heap[S']? = some (.cells #[.pointer (some ⟨N', 0, none⟩), .int .i64 ((cnt : Int) + 1), .pointer (some ⟨S, 0, none⟩), .map none, .bool false, .bool false] 118 (0, 0)) ∧ PMap w' X 1 (fun t => if t = p then some S' else none) ∧ NamesAt w' w.heap.size N' M' (cnt + 1) v' (.int .i64 0) (L.take cnt ++ [p.1]) ∧ Kx [S] w w' := by
  subst hX
  obtain ⟨h1, h2, h3⟩ := hN
  obtain ⟨a, cc, rfl⟩ := owns_slice h2
  obtain ⟨ps, pa, pb, pc, pd⟩ := p
  unfold stpV stepV
  dsimp only
  dsimp only at hp
  obtain ⟨W0, hW0⟩ : ∃ W0, W0 = w.alloc (Obj.cells #[.string ps, .bool pa, .bool pb, .bool pc, .bool pd] 169) := ⟨_, rfl⟩
  have hS0 : W0.heap[S]? = some (.cells #[.pointer (some ⟨N, 0, none⟩), .int .i64 (cnt : Int), fr, .map none, .bool al, .bool kp] 118 (0, 0)) := by rw [hW0]; exact heap_old hS _
  have hN0 : W0.heap[N]? = some (.cells #[.slice a L.length cc, .map (some M), k] 121 (0, 0)) := by rw [hW0]; exact heap_old h1 _
  have hP0 : W0.heap[w.heap.size]? = some (Obj.cells #[.string ps, .bool pa, .bool pb, .bool pc, .bool pd] 169 (0, 0)) := by rw [hW0]; exact heap_alloc_new _ _
  have hr0 : W0.ownsRow base 9 1 (.slice a L.length cc) L.length (L.map Value.string) := by rw [hW0]; exact (Kx.alloc [] w _).owns h2 (fun g hg => by simp)
  have hm0 : IMap W0 M n (pf L) := by rw [hW0]; exact h3.kept (World.grownBy_alloc _ _ none) (by simp)
  have hk0 : Kx [] w W0 := by rw [hW0]; exact Kx.alloc _ _ _
  have c0 := cell_at hS0 0 rfl
  have c1 := cell_at hS0 1 rfl
  have d0 := cell_at hN0 0 rfl
  have q0 := cell_at hP0 0 rfl
  have cp := fun q => part_any N (.slice a L.length cc) (.map (some M)) k L cnt (W0.drewN q) base (show (W0.drewN q).heap[N]? = _ from hN0) (show (W0.drewN q).ownsRow _ _ _ _ _ _ from hr0) (by omega) hL hs
  have hltS := lt_get hS0
  have hltP := lt_get hP0
  have FL : Hid (S < W0.heap.size ∧ w.heap.size < W0.heap.size) := ⟨hltS, hltP⟩
  have hSP : S ≠ w.heap.size := cells_ne hS0 hP0 (by decide)
  have FSP : Hid (S ≠ w.heap.size) := hSP
  have CP := (show Hid _ from cp)
  have HS0 := (show Hid _ from hS0)
  have HP0 := (show Hid _ from hP0)
  have HK0 := (show Hid _ from hk0)
  have kg : (cnt : Int) < (L.length : Int) := by omega
  rw [hW0] at c0 c1 d0 q0
  clear hltS hltP hSP h1 h2 h3 hS hS0 hN0 hP0 hr0 hm0 hk0 cp
  go_enter Tryz.func118, Tryz.ntmps118
  go_wp2
  rw [← hW0] at *
  clear hW0
  go_quiet (fail)
  go_wp2_with (first | (go_at_call 119; fail))
  refine (CP.out nq).mono ?_
  rintro e w0 ⟨N', M', v2, rfl, hN', hM', hNN, hRR, hMM, hbb⟩
  obtain ⟨a2, c2, rfl⟩ := owns_slice hRR
  have hlp : (L.take cnt).length = cnt := by rw [List.length_take]; omega
  have hkz : Kx [] (W0.drewN nq) w0 := Kx.ofBelow hbb []
  have hSz := hkz.get (show (W0.drewN nq).heap[S]? = _ from HS0.out) (by simp)
  have hPz := hkz.get (show (W0.drewN nq).heap[w.heap.size]? = _ from HP0.out) (by simp)
  have hW0s : (W0.drewN nq).heap.size = W0.heap.size := rfl
  rw [hW0s] at hN' hM'
  have hRR2 : w0.ownsRow w.heap.size 9 1 (.slice a2 cnt c2) (L.take cnt).length ((L.take cnt).map Value.string) := by rw [hlp]; exact owns_low hRR (by rw [hW0s]; exact HK0.out.size)
  have ca := add_any N' M' cnt w.heap.size (.slice a2 cnt c2) (.int .i64 0) (L.take cnt) (pf (L.take cnt)) ps w0 hNN hRR2 hMM hp (by omega) (by omega) (Nat.le_trans HK0.out.size hbb.size)
  have CA := (show Hid _ from fun (_ : Unit) => ca)
  have hSN : S ≠ N' := by have := FL.out.1; omega
  have hSM : S ≠ M' := by have := FL.out.1; omega
  have hSr : S ∉ (Value.slice a2 cnt c2).ownBlock.toList := row_apart hRR hSz (by decide)
  have hPN : w.heap.size ≠ N' := by have := FL.out.2; omega
  have hPM : w.heap.size ≠ M' := by have := FL.out.2; omega
  have hPr : w.heap.size ∉ (Value.slice a2 cnt c2).ownBlock.toList := row_apart hRR hPz (by decide)
  have FS : Hid (S ∉ N' :: M' :: (Value.slice a2 cnt c2).ownBlock.toList) := by
    show S ∉ _
    simp only [List.mem_cons, not_or]
    exact ⟨hSN, hSM, hSr⟩
  have FP : Hid (w.heap.size ∉ N' :: M' :: (Value.slice a2 cnt c2).ownBlock.toList) := by
    show w.heap.size ∉ _
    simp only [List.mem_cons, not_or]
    exact ⟨hPN, hPM, hPr⟩
  have FN : Hid (N' ≠ S ∧ M' ≠ S) := ⟨fun e => hSN e.symm, fun e => hSM e.symm⟩
  have FR : Hid (∀ g ∈ (Value.slice a2 cnt c2).ownBlock.toList, w.heap.size ≤ g) := fun g hg => by
    cases hv : (Value.slice a2 cnt c2).ownBlock with
    | none => rw [hv] at hg; simp at hg
    | some g2 =>
      rw [hv] at hg
      simp at hg
      subst hg
      exact (hRR2.lt _ hv).1
  have q0 := cell_at hPz 0 rfl
  have HSZ0 := (show Hid _ from hSz)
  have HPZ0 := (show Hid _ from hPz)
  have HKZ := (show Hid (Kx [] (W0.drewN nq) w0) from hkz)
  have HN' : Hid (W0.heap.size ≤ N' ∧ W0.heap.size ≤ M') := ⟨hN', hM'⟩
  clear CP c0 c1 d0 hNN hRR hRR2 hMM hbb hkz hSz hPz ca hSN hSM hSr hPN hPM hPr hN' hM'
  go_wp2_with (first | (go_at_call 116; fail))
  refine (CA.out ()).mono ?_
  rintro e w1 ⟨⟨u, rfl⟩, v', hN1, hr1, hm1, -, hk1⟩
  clear CA q0
  have hS1 : w1.heap[S]? = some (.cells #[.pointer (some ⟨N, 0, none⟩), .int .i64 (cnt : Int), fr, .map none, .bool al, .bool kp] 118 (0, 0)) := hk1.get HSZ0.out FS.out
  have hP1 : w1.heap[w.heap.size]? = some (Obj.cells #[.string ps, .bool pa, .bool pb, .bool pc, .bool pd] 169 (0, 0)) := hk1.get HPZ0.out FP.out
  obtain ⟨X, hXe⟩ : ∃ X, X = w1.heap.size := ⟨_, rfl⟩
  obtain ⟨W1, hW1⟩ : ∃ W1, W1 = (w1.alloc (Obj.map #[] 0)).setCell ⟨S, 3, none⟩ (.map (some w1.heap.size)) := ⟨_, rfl⟩
  have hSa : (w1.alloc (Obj.map #[] 0)).heap[S]? = some (.cells #[.pointer (some ⟨N, 0, none⟩), .int .i64 (cnt : Int), fr, .map none, .bool al, .bool kp] 118 (0, 0)) := heap_old hS1 _
  have y3 := cell_at hSa 3 rfl
  have yf := fr_all hSa 3
  have hkW : Kx [S] w1 W1 := by rw [hW1]; exact (Kx.alloc _ _ _).set (by simp) _
  have hSW : W1.heap[S]? = some (.cells #[.pointer (some ⟨N, 0, none⟩), .int .i64 (cnt : Int), fr, .map (some X), .bool al, .bool kp] 118 (0, 0)) := by rw [hW1, hXe]; exact heap_put hSa 3 _
  have hPW : W1.heap[w.heap.size]? = some (Obj.cells #[.string ps, .bool pa, .bool pb, .bool pc, .bool pd] 169 (0, 0)) := hkW.get hP1 (by simp; exact fun e => FSP.out e.symm)
  have hltS := lt_get hS1
  have hx1 : PMap W1 X 0 (fun _ => none) := by
    rw [hW1, hXe]
    exact (Kx.setCell (S := [S]) _ (by simp) _).pmap (pmap_made w1) (by simp; omega)
  have hsz : W1.heap.size = w1.heap.size + 1 := by rw [hW1]; simp [World.setCell]
  have c0 := cell_at hS1 0 rfl
  have c1 := cell_at hSW 1 rfl
  have c3 := cell_at hS1 3 rfl
  have c3' := cell_at hSW 3 rfl
  have p0 := cell_at hPW 0 rfl
  have p1 := cell_at hPW 1 rfl
  have p2 := cell_at hPW 2 rfl
  have p3 := cell_at hPW 3 rfl
  have p4 := cell_at hPW 4 rfl
  have hx2a : PMap (W1.alloc (Obj.cells #[.pointer (some ⟨N', 0, none⟩), .int .i64 ((cnt : Int) + 1), .pointer (some ⟨S, 0, none⟩), .map none, .bool false, .bool false] 118)) X 0 (fun _ => none) := hx1.kept (World.grownBy_alloc _ _ none) (by simp)
  have hx2 : PMap ((W1.alloc (Obj.cells #[.pointer (some ⟨N', 0, none⟩), .int .i64 ((cnt : Int) + 1), .pointer (some ⟨S, 0, none⟩), .map none, .bool false, .bool false] 118)).drew) X 0 (fun _ => none) := hx2a
  obtain ⟨w3, hput, hx3, hg3⟩ := pmap_put hx2 (ps, pa, pb, pc, pd) hp W1.heap.size (by unfold maxLen; omega)
  have hput' : (Instr.mapUpdate 116 (.map (some X)) (.agg #[.string ps, .bool pa, .bool pb, .bool pc, .bool pd]) (.pointer (some ⟨W1.heap.size, 0, none⟩))).run Tryz.prog ((W1.alloc (Obj.cells #[.pointer (some ⟨N', 0, none⟩), .int .i64 ((cnt : Int) + 1), .pointer (some ⟨S, 0, none⟩), .map none, .bool false, .bool false] 118)).drew) = .ok () w3 := hput
  have wc : IntKind.i64.wrap ((cnt : Int) + 1) = (cnt : Int) + 1 := by rw [IntKind.wrap_i64]; omega
  have hne := mapNil_yes
  have hmm := @run_makeMap Tryz.prog
  have hks : Kx [] W1 ((W1.alloc (Obj.cells #[.pointer (some ⟨N', 0, none⟩), .int .i64 ((cnt : Int) + 1), .pointer (some ⟨S, 0, none⟩), .map none, .bool false, .bool false] 118)).drew) := (Kx.alloc _ _ _).drw1
  have hS2 := hks.get hSW (by simp)
  have hP2 := hks.get hPW (by simp)
  have hSX : S ≠ X := by omega
  have hPX2 : w.heap.size ≠ X := by
    have := lt_get hP1
    omega
  have hS3 : w3.heap[S]? = _ := (Kx.grown hg3).get hS2 (by simp; exact hSX)
  have hP3 : w3.heap[w.heap.size]? = _ := (Kx.grown hg3).get hP2 (by simp; exact hPX2)
  have HS3 := (show Hid _ from hS3)
  have HX1 : Hid (PMap W1 X 0 (fun _ => none)) := hx1
  have HKS := (show Hid _ from hks)
  have HX3 := (show Hid _ from hx3)
  have HG3 := (show Hid _ from hg3)
  have HK1 := (show Hid _ from hk1)
  have HKW := (show Hid _ from hkW)
  have HN1 := (show Hid _ from hN1)
  have HR1 : Hid (w1.ownsRow w.heap.size 9 1 v' ((L.take cnt).length + 1) ((L.take cnt ++ [ps]).map Value.string)) := hr1
  have HM1 : Hid (IMap w1 M' (cnt + 1) (fun t => if t = ps then some (L.take cnt).length else pf (L.take cnt) t)) := hm1
  have HXE : Hid (X = w1.heap.size) := hXe
  have HS1 := (show Hid (w1.heap[S]? = some (.cells #[.pointer (some ⟨N, 0, none⟩), .int .i64 (cnt : Int), fr, .map none, .bool al, .bool kp] 118 (0, 0))) from hS1)
  have HSZ : Hid (W1.heap.size = w1.heap.size + 1) := hsz
  have s1 := cell_at hS2 1 rfl
  have s3 := cell_at hS2 3 rfl
  have t0 := cell_at hP2 0 rfl
  have t1 := cell_at hP2 1 rfl
  have t2 := cell_at hP2 2 rfl
  have t3 := cell_at hP2 3 rfl
  have t4 := cell_at hP2 4 rfl
  have u1 := cell_at hS3 1 rfl
  have u3 := cell_at hS3 3 rfl
  have v0 := cell_at hP3 0 rfl
  have v1 := cell_at hP3 1 rfl
  have v2 := cell_at hP3 2 rfl
  have v3 := cell_at hP3 3 rfl
  have v4 := cell_at hP3 4 rfl
  clear hput hx3 hg3 hk1 hN1 hr1 hm1 hx2 hx2a hx1 hS1 hP1 hS2 hP2 hS3 hP3 hks hSa hSW hPW hkW hXe hsz hltS hSX hPX2
  go_wp2
  rw [← hW1]
  clear hW1
  go_region_held3 (fun Z : World => Z.cell? ⟨S, 1, none⟩ = some (.int .i64 (cnt : Int)) ∧ Z.cell? ⟨S, 3, none⟩ = some (.map (some X)) ∧ Z.cell? ⟨w.heap.size, 0, none⟩ = some (.string ps) ∧ Z.cell? ⟨w.heap.size, 1, none⟩ = some (.bool pa) ∧ Z.cell? ⟨w.heap.size, 2, none⟩ = some (.bool pb) ∧ Z.cell? ⟨w.heap.size, 3, none⟩ = some (.bool pc) ∧ Z.cell? ⟨w.heap.size, 4, none⟩ = some (.bool pd)) (first | exact ⟨c1, c3', p0, p1, p2, p3, p4⟩ | exact ⟨s1, s3, t0, t1, t2, t3, t4⟩ | exact ⟨u1, u3, v0, v1, v2, v3, v4⟩) (fail)
  refine bodyPost_end (results_none rfl _ _ _) rfl ?_
  have hsW := HK0.out.size
  have hk01 : Kx [S] w w1 := ((HK0.out.mono (fun i hi => by cases hi)).trans (((Kx.drewN [] W0 nq).trans HKZ.out (fun i hi => by cases hi)) : Kx [] W0 w0) (fun i hi => by cases hi)).trans HK1.out (fun i hi => .inr (by
    simp only [List.mem_cons] at hi
    have h9 := HN'.out
    rcases hi with rfl | rfl | hi
    · omega
    · omega
    · exact FR.out i hi))
  have hk3 : Kx [X] W1 w3 := (HKS.out.mono (fun i hi => by cases hi)).trans (Kx.grown HG3.out) (fun i hi => .inl (by simp at hi; simp [hi]))
  have hltN := lt_get HN1.out
  have hltM : M' < w1.heap.size := IMap.lt HM1.out
  have hXE := HXE.out
  have hSZ := HSZ.out
  have hs1 := hk01.size
  have h9 := HN'.out
  refine ⟨⟨_, rfl⟩, W1.heap.size, X, N', M', v', by omega, by omega, by omega, by omega, by omega, HS3.out, (Kx.grown HG3.out).get (show ((W1.alloc _).drew).heap[W1.heap.size]? = _ from heap_alloc_new _ _) (by simp; omega), HX3.out, ⟨hk3.get (HKW.out.get HN1.out (by simp; exact FN.out.1)) (by simp; omega), ?_, ?_⟩, (hk01.same HKW.out).trans hk3 (fun i hi => .inr (by simp at hi; omega))⟩
  · have e : (L.take cnt ++ [ps]).length = (L.take cnt).length + 1 := by simp
    rw [e]
    refine hk3.owns (HKW.out.owns HR1.out (fun g hg => ?_)) (fun g hg => ?_)
    · simp
      exact owns_ne HR1.out HS1.out (by decide) g hg
    · have hrr : w1.ownsRow w.heap.size 9 1 v' ((L.take cnt).length + 1) ((L.take cnt ++ [ps]).map Value.string) := HR1.out
      have := (hrr.lt g hg).2
      simp
      omega
  · rw [pf_snoc]
    exact hk3.imap (HKW.out.imap HM1.out (by simp; exact FN.out.2)) (by simp; omega)
end Go.Proofs.YtmicdbplkfdfnaaGreatDoor
set_option linter.unusedVariables false
namespace Go.Proofs.YtmicdbplkfdfnaaGreatDoor
open Go.RowKit Go.Shelf Go.Maps

theorem pmap_look_nil (p : Stp) (w : World) : (Instr.lookup 116 (.map none) (stpV p) false).run Tryz.prog w = .ok (.pointer none) w := by kernel_rfl
theorem nil87_no (b : Nat) (w : World) : (binOp .eql 87 (.pointer (some ⟨b, 0, none⟩)) (.pointer none)).run Tryz.prog w = .ok (.bool false) w := by kernel_rfl
theorem nil87_yes (w : World) : (binOp .eql 87 (.pointer none) (.pointer none)).run Tryz.prog w = .ok (.bool true) w := by kernel_rfl
set_option maxRecDepth 100000 in
set_option maxHeartbeats 2000000 in
theorem after_hit (S X nX S' : Nat) (nm fr ct : Value) (kp : Bool) (fX : Stp → Option Nat) (p : Stp) (w : World)
    (hS : w.heap[S]? = some (.cells #[nm, ct, fr, .map (some X), .bool false, .bool kp] 118 (0, 0))) (hX : PMap w X nX fX) (hp : p.1.size ≤ maxLen) (hf : fX p = some S') :
    Calls Tryz.prog 85 #[.pointer (some ⟨S, 0, none⟩), stpV p] w fun e w' => e = .returned (.pointer (some ⟨S', 0, none⟩)) ∧ Kx [] w w' := by
  have hl : ∀ q, (Instr.lookup 116 (.map (some X)) (stpV p) false).run Tryz.prog ((w.alloc (Obj.cells (stpV p).cells 169)).drewN q) = .ok (.pointer (some ⟨S', 0, none⟩)) ((w.alloc (Obj.cells (stpV p).cells 169)).drewN q) := fun q => by
    have h0 : PMap (w.alloc (Obj.cells (stpV p).cells 169)) X nX fX := hX.kept (World.grownBy_alloc _ _ none) (by simp)
    have h := pmap_look (w := (w.alloc (Obj.cells (stpV p).cells 169)).drewN q) (show PMap ((w.alloc (Obj.cells (stpV p).cells 169)).drewN q) X nX fX from h0) p hp
    rw [hf] at h
    exact h
  obtain ⟨ps, pa, pb, pc, pd⟩ := p
  unfold stpV stepV
  dsimp only
  dsimp only at hp
  obtain ⟨W0, hW0⟩ : ∃ W0, W0 = w.alloc (Obj.cells #[.string ps, .bool pa, .bool pb, .bool pc, .bool pd] 169) := ⟨_, rfl⟩
  have hl' : ∀ q, (Instr.lookup 116 (.map (some X)) (.agg #[.string ps, .bool pa, .bool pb, .bool pc, .bool pd]) false).run Tryz.prog (W0.drewN q) = .ok (.pointer (some ⟨S', 0, none⟩)) (W0.drewN q) := by rw [hW0]; exact hl
  have hS0 : W0.heap[S]? = some (.cells #[nm, ct, fr, .map (some X), .bool false, .bool kp] 118 (0, 0)) := by rw [hW0]; exact heap_old hS _
  have hP0 : W0.heap[w.heap.size]? = some (Obj.cells #[.string ps, .bool pa, .bool pb, .bool pc, .bool pd] 169 (0, 0)) := by rw [hW0]; exact heap_alloc_new _ _
  have hk0 : Kx [] w W0 := by rw [hW0]; exact Kx.alloc _ _ _
  have HK0 := (show Hid _ from hk0)
  have c3 := cell_at hS0 3 rfl
  have c4 := cell_at hS0 4 rfl
  have p0 := cell_at hP0 0 rfl
  have p1 := cell_at hP0 1 rfl
  have p2 := cell_at hP0 2 rfl
  have p3 := cell_at hP0 3 rfl
  have p4 := cell_at hP0 4 rfl
  have hnn := nil87_no S'
  rw [hW0] at c3 c4 p0 p1 p2 p3 p4
  clear hl hS0 hP0 hX hS hk0 hp
  go_enter Tryz.func85, Tryz.ntmps85
  go_wp2
  rw [← hW0] at *
  clear hW0
  go_quiet (fail)
  go_wp2
  have hl2 : ∀ q, (Instr.lookup 116 (.map (some X)) (.agg #[.string ps, .bool pa, .bool pb, .bool pc, .bool pd]) false).run Tryz.prog ((W0.drewN nq).drewN q) = .ok (.pointer (some ⟨S', 0, none⟩)) ((W0.drewN nq).drewN q) := fun q => by rw [World.drewN_drewN]; exact hl' _
  have c5 : (W0.drewN nq).cell? ⟨S, 3, none⟩ = _ := c3
  have r0 : (W0.drewN nq).cell? ⟨w.heap.size, 0, none⟩ = _ := p0
  have r1 : (W0.drewN nq).cell? ⟨w.heap.size, 1, none⟩ = _ := p1
  have r2 : (W0.drewN nq).cell? ⟨w.heap.size, 2, none⟩ = _ := p2
  have r3 : (W0.drewN nq).cell? ⟨w.heap.size, 3, none⟩ = _ := p3
  have r4 : (W0.drewN nq).cell? ⟨w.heap.size, 4, none⟩ = _ := p4
  have HK1 : Hid (Kx [] w (W0.drewN nq)) := (show Kx [] w (W0.drewN nq) from HK0.out.drw nq)
  clear hl' c3 c4 p0 p1 p2 p3 p4 HK0
  obtain ⟨W1, hW1⟩ : ∃ W1, W1 = W0.drewN nq := ⟨_, rfl⟩
  rw [← hW1] at hl2 c5 r0 r1 r2 r3 r4 HK1 ⊢
  clear hW1
  go_quiet (fail)
  go_wp2
  go_ret
  exact ⟨rfl, HK1.out.drw _⟩

/-- At a step that the shape has no follower for: grow, and the look again. -/
theorem after_miss (S : Nat) (nm fr ct nx : Value) (kp : Bool) (p : Stp) (w : World) (Q : Nat → World → Prop)
    (hS : w.heap[S]? = some (.cells #[nm, ct, fr, nx, .bool false, .bool kp] 118 (0, 0))) (hp : p.1.size ≤ maxLen)
    (hno : ∀ W, Kx [] w W → (Instr.lookup 116 nx (stpV p) false).run Tryz.prog W = .ok (.pointer none) W)
    (hg : ∀ W, Kx [] w W → W.heap[w.heap.size]? = some (Obj.cells #[.string p.1, .bool p.2.1, .bool p.2.2.1, .bool p.2.2.2.1, .bool p.2.2.2.2] 169 (0, 0)) →
      Calls Tryz.prog 118 #[.pointer (some ⟨S, 0, none⟩), stpV p] W fun e w' => (∃ u, e = .returned u) ∧ ∃ S' X' n' f' nm' ct' fr' al' kp', w'.heap[S]? = some (.cells #[nm', ct', fr', .map (some X'), al', kp'] 118 (0, 0)) ∧ w'.heap[w.heap.size]? = some (Obj.cells #[.string p.1, .bool p.2.1, .bool p.2.2.1, .bool p.2.2.2.1, .bool p.2.2.2.2] 169 (0, 0)) ∧ PMap w' X' n' f' ∧ f' p = some S' ∧ Q S' w') :
    Calls Tryz.prog 85 #[.pointer (some ⟨S, 0, none⟩), stpV p] w fun e w' => ∃ S' w1 q, e = .returned (.pointer (some ⟨S', 0, none⟩)) ∧ Q S' w1 ∧ w' = w1.drewN q := by
  obtain ⟨ps, pa, pb, pc, pd⟩ := p
  unfold stpV stepV at *
  dsimp only at *
  obtain ⟨W0, hW0⟩ : ∃ W0, W0 = w.alloc (Obj.cells #[.string ps, .bool pa, .bool pb, .bool pc, .bool pd] 169) := ⟨_, rfl⟩
  have hS0 : W0.heap[S]? = some (.cells #[nm, ct, fr, nx, .bool false, .bool kp] 118 (0, 0)) := by rw [hW0]; exact heap_old hS _
  have hP0 : W0.heap[w.heap.size]? = some (Obj.cells #[.string ps, .bool pa, .bool pb, .bool pc, .bool pd] 169 (0, 0)) := by rw [hW0]; exact heap_alloc_new _ _
  have hk0 : Kx [] w W0 := by rw [hW0]; exact Kx.alloc _ _ _
  have hl' : ∀ q, (Instr.lookup 116 nx (.agg #[.string ps, .bool pa, .bool pb, .bool pc, .bool pd]) false).run Tryz.prog (W0.drewN q) = .ok (.pointer none) (W0.drewN q) := fun q => hno _ (hk0.drw q)
  have c3 := cell_at hS0 3 rfl
  have c4 := cell_at hS0 4 rfl
  have p0 := cell_at hP0 0 rfl
  have p1 := cell_at hP0 1 rfl
  have p2 := cell_at hP0 2 rfl
  have p3 := cell_at hP0 3 rfl
  have p4 := cell_at hP0 4 rfl
  have hnn := nil87_yes
  have HK0 : Hid (Kx [] w W0) := (show Kx [] w W0 from hk0)
  have HP0 := (show Hid _ from hP0)
  have CG := (show Hid _ from hg)
  rw [hW0] at c3 c4 p0 p1 p2 p3 p4
  clear hS0 hP0 hS hk0 hno hg
  go_enter Tryz.func85, Tryz.ntmps85
  go_wp2
  rw [← hW0] at *
  clear hW0
  go_quiet (fail)
  have r0 : (W0.drewN nq).cell? ⟨w.heap.size, 0, none⟩ = _ := p0
  have r1 : (W0.drewN nq).cell? ⟨w.heap.size, 1, none⟩ = _ := p1
  have r2 : (W0.drewN nq).cell? ⟨w.heap.size, 2, none⟩ = _ := p2
  have r3 : (W0.drewN nq).cell? ⟨w.heap.size, 3, none⟩ = _ := p3
  have r4 : (W0.drewN nq).cell? ⟨w.heap.size, 4, none⟩ = _ := p4
  go_wp2_with (first | (go_at_call 118; fail))
  refine (CG.out _ (HK0.out.drw nq) HP0.out).mono ?_
  rintro e w2 ⟨⟨u, rfl⟩, S', X', n', f', nm', ct', fr', al', kp', hS2, hP2, hX2, hf2, hQ⟩
  have hl2 : ∀ q, (Instr.lookup 116 (.map (some X')) (.agg #[.string ps, .bool pa, .bool pb, .bool pc, .bool pd]) false).run Tryz.prog (w2.drewN q) = .ok (.pointer (some ⟨S', 0, none⟩)) (w2.drewN q) := fun q => by
    have h := pmap_look (w := w2.drewN q) (show PMap (w2.drewN q) X' n' f' from hX2) (ps, pa, pb, pc, pd) hp
    rw [hf2] at h
    exact h
  have c3 := cell_at hS2 3 rfl
  have p0 := cell_at hP2 0 rfl
  have p1 := cell_at hP2 1 rfl
  have p2 := cell_at hP2 2 rfl
  have p3 := cell_at hP2 3 rfl
  have p4 := cell_at hP2 4 rfl
  have HQ := (show Hid _ from hQ)
  clear hS2 hP2 hX2 hf2 hQ CG HK0 HP0 r0 r1 r2 r3 r4 hl' hnn
  go_wp2
  go_quiet (fail)
  go_wp2
  go_ret
  exact ⟨S', w2, _, rfl, HQ.out, rfl⟩
end Go.Proofs.YtmicdbplkfdfnaaGreatDoor
set_option linter.unusedVariables false
namespace Go.Proofs.YtmicdbplkfdfnaaGreatDoor
open Go.RowKit Go.Shelf Go.Maps

theorem heap_setCell_ne {w : World} {g h : Nat} {o : Obj} (hg : w.heap[g]? = some o) (hne : h ≠ g) (j : Nat) (v : Value) : (w.setCell ⟨h, j, none⟩ v).heap[g]? = some o :=
  (Kx.setCell (S := [h]) w (p := ⟨h, j, none⟩) (by simp) v).get hg (by simp; exact fun e => hne e.symm)
theorem heap_set_at {w : World} {g : Nat} {C C' : Array Value} {t : TypeId} {fr : Nat × Nat} (h : w.heap[g]? = some (Obj.cells C t fr)) (j : Nat) (v : Value) (hC : C.setIfInBounds j v = C') : (w.setCell ⟨g, j, none⟩ v).heap[g]? = some (Obj.cells C' t fr) := hC ▸ heap_setCell h j v
theorem run_store_flt (P : Program) (w : World) (a : Addr) (m : Mode) (k : FloatKind) (n : Nat) : (store a (.float k n) m).run P w = stored P w a (.float k n) m := run_store P w a _ m rfl
attribute [local go_sem] run_store_flt
theorem tellsF_any (p0 p1 p2 p3 p4 p5 p6 p7 p8 p9 : Value) (hv hg hs hw he hc : Bool) (w : World) :
    Calls Tryz.prog 64 #[.agg #[p0, p1, p2, p3, p4, p5, p6, p7, p8, p9, .bool hv, .bool hg, .bool hs, .bool hw, .bool he, .bool hc]] w fun e w' => e = .returned (.bool (hg || hs)) ∧ w' = w.alloc (Obj.cells #[p0, p1, p2, p3, p4, p5, p6, p7, p8, p9, .bool hv, .bool hg, .bool hs, .bool hw, .bool he, .bool hc] 99) := by
  cases hg <;>
  · go_enter Tryz.func64, Tryz.ntmps64
    go_wp2
    go_ret
    exact ⟨rfl, rfl⟩
theorem tellsV_any (p0 p1 p2 p3 p4 p5 p6 p7 p8 p9 : Value) (hv hg hs hw he hc : Bool) (w : World) :
    Calls Tryz.prog 65 #[.agg #[p0, p1, p2, p3, p4, p5, p6, p7, p8, p9, .bool hv, .bool hg, .bool hs, .bool hw, .bool he, .bool hc]] w fun e w' => e = .returned (.bool (hv || hw)) ∧ w' = w.alloc (Obj.cells #[p0, p1, p2, p3, p4, p5, p6, p7, p8, p9, .bool hv, .bool hg, .bool hs, .bool hw, .bool he, .bool hc] 99) := by
  cases hv <;>
  · go_enter Tryz.func65, Tryz.ntmps65
    go_wp2
    go_ret
    exact ⟨rfl, rfl⟩
set_option maxRecDepth 100000 in
set_option maxHeartbeats 2000000 in
/-- with, where a value and all three flags are told of a property that is no functions. -/
theorem with_all (q0 q1 q2 p0 p1 p2 p3 : Bool) (q4 p4 : Int) (q5 p5 : Nat) (q6 p6 : ByteArray) (q7 q8 q9 p7 p8 p9 : Option Addr) (w : World) :
    Calls Tryz.prog 69 #[.agg #[.bool q0, .bool q1, .bool q2, .bool false, .int .i64 q4, .float .f64 q5, .string q6, .pointer q7, .pointer q8, .pointer q9], .agg #[.bool p0, .bool p1, .bool p2, .bool p3, .int .i64 p4, .float .f64 p5, .string p6, .pointer p7, .pointer p8, .pointer p9, .bool true, .bool false, .bool false, .bool true, .bool true, .bool true]] w fun e w' => e = .returned (.agg #[.bool p0, .bool p1, .bool p2, .bool false, .int .i64 p4, .float .f64 p5, .string p6, .pointer p7, .pointer q8, .pointer q9]) ∧ Kx [] w w' := by
  have c := fun W => tellsF_any (.bool p0) (.bool p1) (.bool p2) (.bool p3) (.int .i64 p4) (.float .f64 p5) (.string p6) (.pointer p7) (.pointer p8) (.pointer p9) true false false true true true W
  rw [Bool.or_false] at c
  obtain ⟨W1, hW1⟩ : ∃ W1, W1 = ((((w.alloc (Obj.cells #[.bool q0, .bool q1, .bool q2, .bool false, .int .i64 q4, .float .f64 q5, .string q6, .pointer q7, .pointer q8, .pointer q9] 75)).alloc (Obj.cells #[.bool p0, .bool p1, .bool p2, .bool p3, .int .i64 p4, .float .f64 p5, .string p6, .pointer p7, .pointer p8, .pointer p9, .bool true, .bool false, .bool false, .bool true, .bool true, .bool true] 99)).alloc (Obj.cells #[.bool false, .bool false, .bool false, .bool false, .int .i64 0, .float .f64 0, .string ⟨#[]⟩, .pointer none, .pointer none, .pointer none] 75)).alloc (Obj.cells #[.bool p0, .bool p1, .bool p2, .bool p3, .int .i64 p4, .float .f64 p5, .string p6, .pointer p7, .pointer p8, .pointer p9, .bool true, .bool false, .bool false, .bool true, .bool true, .bool true] 99)) := ⟨_, rfl⟩
  have hk : Hid (Kx [] w W1) := by rw [hW1]; exact (show Kx [] w _ from (((Kx.alloc _ _ _).alc _).alc _).alc _)
  have hP : W1.heap[w.heap.size]? = some (Obj.cells #[.bool q0, .bool q1, .bool q2, .bool false, .int .i64 q4, .float .f64 q5, .string q6, .pointer q7, .pointer q8, .pointer q9] 75 (0, 0)) := by rw [hW1]; exact heap_old (heap_old (heap_old (heap_alloc_new _ _) _) _) _
  have hT : W1.heap[w.heap.size + 1]? = some (Obj.cells #[.bool p0, .bool p1, .bool p2, .bool p3, .int .i64 p4, .float .f64 p5, .string p6, .pointer p7, .pointer p8, .pointer p9, .bool true, .bool false, .bool false, .bool true, .bool true, .bool true] 99 (0, 0)) := by
    have e : w.heap.size + 1 = (w.alloc (Obj.cells #[.bool q0, .bool q1, .bool q2, .bool false, .int .i64 q4, .float .f64 q5, .string q6, .pointer q7, .pointer q8, .pointer q9] 75)).heap.size := by simp
    rw [hW1, e]; exact heap_old (heap_old (heap_alloc_new _ _) _) _
  have hR : W1.heap[w.heap.size + 1 + 1]? = some (Obj.cells #[.bool false, .bool false, .bool false, .bool false, .int .i64 0, .float .f64 0, .string ⟨#[]⟩, .pointer none, .pointer none, .pointer none] 75 (0, 0)) := by
    have e : w.heap.size + 1 + 1 = ((w.alloc (Obj.cells #[.bool q0, .bool q1, .bool q2, .bool false, .int .i64 q4, .float .f64 q5, .string q6, .pointer q7, .pointer q8, .pointer q9] 75)).alloc (Obj.cells #[.bool p0, .bool p1, .bool p2, .bool p3, .int .i64 p4, .float .f64 p5, .string p6, .pointer p7, .pointer p8, .pointer p9, .bool true, .bool false, .bool false, .bool true, .bool true, .bool true] 99)).heap.size := by simp
    rw [hW1, e]; exact heap_old (heap_alloc_new _ _) _
  go_enter Tryz.func69, Tryz.ntmps69
  go_wp2_with (first | (go_at_call 64; fail))
  refine (c _).mono ?_
  rintro e w1 ⟨rfl, rfl⟩
  rw [← hW1]
  clear hW1 c
  have cP0 : W1.cell? ⟨w.heap.size, 0, none⟩ = some (.bool q0) := by simp [World.cell?, hP]
  have fP0 : W1.frozen? ⟨w.heap.size, 0, none⟩ = false := by simp [World.frozen?, hP]
  have cP1 : W1.cell? ⟨w.heap.size, 1, none⟩ = some (.bool q1) := by simp [World.cell?, hP]
  have fP1 : W1.frozen? ⟨w.heap.size, 1, none⟩ = false := by simp [World.frozen?, hP]
  have cP2 : W1.cell? ⟨w.heap.size, 2, none⟩ = some (.bool q2) := by simp [World.cell?, hP]
  have fP2 : W1.frozen? ⟨w.heap.size, 2, none⟩ = false := by simp [World.frozen?, hP]
  have cP3 : W1.cell? ⟨w.heap.size, 3, none⟩ = some (.bool false) := by simp [World.cell?, hP]
  have fP3 : W1.frozen? ⟨w.heap.size, 3, none⟩ = false := by simp [World.frozen?, hP]
  have cP4 : W1.cell? ⟨w.heap.size, 4, none⟩ = some (.int .i64 q4) := by simp [World.cell?, hP]
  have fP4 : W1.frozen? ⟨w.heap.size, 4, none⟩ = false := by simp [World.frozen?, hP]
  have cP5 : W1.cell? ⟨w.heap.size, 5, none⟩ = some (.float .f64 q5) := by simp [World.cell?, hP]
  have fP5 : W1.frozen? ⟨w.heap.size, 5, none⟩ = false := by simp [World.frozen?, hP]
  have cP6 : W1.cell? ⟨w.heap.size, 6, none⟩ = some (.string q6) := by simp [World.cell?, hP]
  have fP6 : W1.frozen? ⟨w.heap.size, 6, none⟩ = false := by simp [World.frozen?, hP]
  have cP7 : W1.cell? ⟨w.heap.size, 7, none⟩ = some (.pointer q7) := by simp [World.cell?, hP]
  have fP7 : W1.frozen? ⟨w.heap.size, 7, none⟩ = false := by simp [World.frozen?, hP]
  have cP8 : W1.cell? ⟨w.heap.size, 8, none⟩ = some (.pointer q8) := by simp [World.cell?, hP]
  have fP8 : W1.frozen? ⟨w.heap.size, 8, none⟩ = false := by simp [World.frozen?, hP]
  have cP9 : W1.cell? ⟨w.heap.size, 9, none⟩ = some (.pointer q9) := by simp [World.cell?, hP]
  have fP9 : W1.frozen? ⟨w.heap.size, 9, none⟩ = false := by simp [World.frozen?, hP]
  have cT0 : W1.cell? ⟨w.heap.size + 1, 0, none⟩ = some (.bool p0) := by simp [World.cell?, hT]
  have cT1 : W1.cell? ⟨w.heap.size + 1, 1, none⟩ = some (.bool p1) := by simp [World.cell?, hT]
  have cT2 : W1.cell? ⟨w.heap.size + 1, 2, none⟩ = some (.bool p2) := by simp [World.cell?, hT]
  have cT3 : W1.cell? ⟨w.heap.size + 1, 3, none⟩ = some (.bool p3) := by simp [World.cell?, hT]
  have cT4 : W1.cell? ⟨w.heap.size + 1, 4, none⟩ = some (.int .i64 p4) := by simp [World.cell?, hT]
  have cT5 : W1.cell? ⟨w.heap.size + 1, 5, none⟩ = some (.float .f64 p5) := by simp [World.cell?, hT]
  have cT6 : W1.cell? ⟨w.heap.size + 1, 6, none⟩ = some (.string p6) := by simp [World.cell?, hT]
  have cT7 : W1.cell? ⟨w.heap.size + 1, 7, none⟩ = some (.pointer p7) := by simp [World.cell?, hT]
  have cT8 : W1.cell? ⟨w.heap.size + 1, 8, none⟩ = some (.pointer p8) := by simp [World.cell?, hT]
  have cT9 : W1.cell? ⟨w.heap.size + 1, 9, none⟩ = some (.pointer p9) := by simp [World.cell?, hT]
  have cT10 : W1.cell? ⟨w.heap.size + 1, 10, none⟩ = some (.bool true) := by simp [World.cell?, hT]
  have cT11 : W1.cell? ⟨w.heap.size + 1, 11, none⟩ = some (.bool false) := by simp [World.cell?, hT]
  have cT12 : W1.cell? ⟨w.heap.size + 1, 12, none⟩ = some (.bool false) := by simp [World.cell?, hT]
  have cT13 : W1.cell? ⟨w.heap.size + 1, 13, none⟩ = some (.bool true) := by simp [World.cell?, hT]
  have cT14 : W1.cell? ⟨w.heap.size + 1, 14, none⟩ = some (.bool true) := by simp [World.cell?, hT]
  have cT15 : W1.cell? ⟨w.heap.size + 1, 15, none⟩ = some (.bool true) := by simp [World.cell?, hT]
  have cR0 : W1.cell? ⟨w.heap.size + 1 + 1, 0, none⟩ = some (.bool false) := by simp [World.cell?, hR]
  have fR0 : W1.frozen? ⟨w.heap.size + 1 + 1, 0, none⟩ = false := by simp [World.frozen?, hR]
  have cR1 : W1.cell? ⟨w.heap.size + 1 + 1, 1, none⟩ = some (.bool false) := by simp [World.cell?, hR]
  have fR1 : W1.frozen? ⟨w.heap.size + 1 + 1, 1, none⟩ = false := by simp [World.frozen?, hR]
  have cR2 : W1.cell? ⟨w.heap.size + 1 + 1, 2, none⟩ = some (.bool false) := by simp [World.cell?, hR]
  have fR2 : W1.frozen? ⟨w.heap.size + 1 + 1, 2, none⟩ = false := by simp [World.frozen?, hR]
  have cR3 : W1.cell? ⟨w.heap.size + 1 + 1, 3, none⟩ = some (.bool false) := by simp [World.cell?, hR]
  have fR3 : W1.frozen? ⟨w.heap.size + 1 + 1, 3, none⟩ = false := by simp [World.frozen?, hR]
  have cR4 : W1.cell? ⟨w.heap.size + 1 + 1, 4, none⟩ = some (.int .i64 0) := by simp [World.cell?, hR]
  have fR4 : W1.frozen? ⟨w.heap.size + 1 + 1, 4, none⟩ = false := by simp [World.frozen?, hR]
  have cR5 : W1.cell? ⟨w.heap.size + 1 + 1, 5, none⟩ = some (.float .f64 0) := by simp [World.cell?, hR]
  have fR5 : W1.frozen? ⟨w.heap.size + 1 + 1, 5, none⟩ = false := by simp [World.frozen?, hR]
  have cR6 : W1.cell? ⟨w.heap.size + 1 + 1, 6, none⟩ = some (.string ⟨#[]⟩) := by simp [World.cell?, hR]
  have fR6 : W1.frozen? ⟨w.heap.size + 1 + 1, 6, none⟩ = false := by simp [World.frozen?, hR]
  have cR7 : W1.cell? ⟨w.heap.size + 1 + 1, 7, none⟩ = some (.pointer none) := by simp [World.cell?, hR]
  have fR7 : W1.frozen? ⟨w.heap.size + 1 + 1, 7, none⟩ = false := by simp [World.frozen?, hR]
  have cR8 : W1.cell? ⟨w.heap.size + 1 + 1, 8, none⟩ = some (.pointer none) := by simp [World.cell?, hR]
  have fR8 : W1.frozen? ⟨w.heap.size + 1 + 1, 8, none⟩ = false := by simp [World.frozen?, hR]
  have cR9 : W1.cell? ⟨w.heap.size + 1 + 1, 9, none⟩ = some (.pointer none) := by simp [World.cell?, hR]
  have fR9 : W1.frozen? ⟨w.heap.size + 1 + 1, 9, none⟩ = false := by simp [World.frozen?, hR]
  have HP := (show Hid _ from hP)
  have HR := (show Hid _ from hR)
  clear hP hT hR
  go_wp2
  have r0 := (heap_setCell_ne (heap_setCell_ne (heap_setCell_ne (heap_setCell_ne (heap_setCell_ne (heap_setCell_ne (heap_setCell_ne HR.out (show w.heap.size ≠ w.heap.size + 1 + 1 by omega) 4 (.int .i64 p4)) (show w.heap.size ≠ w.heap.size + 1 + 1 by omega) 5 (.float .f64 p5)) (show w.heap.size ≠ w.heap.size + 1 + 1 by omega) 6 (.string p6)) (show w.heap.size ≠ w.heap.size + 1 + 1 by omega) 7 (.pointer p7)) (show w.heap.size ≠ w.heap.size + 1 + 1 by omega) 0 (.bool p0)) (show w.heap.size ≠ w.heap.size + 1 + 1 by omega) 1 (.bool p1)) (show w.heap.size ≠ w.heap.size + 1 + 1 by omega) 2 (.bool p2))
  have r1 := heap_set_at (C' := #[.bool p0, .bool false, .bool false, .bool false, .int .i64 0, .float .f64 0, .string ⟨#[]⟩, .pointer none, .pointer none, .pointer none]) r0 0 (.bool p0) rfl
  have r2 := heap_set_at (C' := #[.bool p0, .bool p1, .bool false, .bool false, .int .i64 0, .float .f64 0, .string ⟨#[]⟩, .pointer none, .pointer none, .pointer none]) r1 1 (.bool p1) rfl
  have r3 := heap_set_at (C' := #[.bool p0, .bool p1, .bool p2, .bool false, .int .i64 0, .float .f64 0, .string ⟨#[]⟩, .pointer none, .pointer none, .pointer none]) r2 2 (.bool p2) rfl
  have r4 := heap_set_at (C' := #[.bool p0, .bool p1, .bool p2, .bool false, .int .i64 0, .float .f64 0, .string ⟨#[]⟩, .pointer none, .pointer none, .pointer none]) r3 3 (.bool false) rfl
  have r5 := heap_set_at (C' := #[.bool p0, .bool p1, .bool p2, .bool false, .int .i64 p4, .float .f64 0, .string ⟨#[]⟩, .pointer none, .pointer none, .pointer none]) r4 4 (.int .i64 p4) rfl
  have r6 := heap_set_at (C' := #[.bool p0, .bool p1, .bool p2, .bool false, .int .i64 p4, .float .f64 p5, .string ⟨#[]⟩, .pointer none, .pointer none, .pointer none]) r5 5 (.float .f64 p5) rfl
  have r7 := heap_set_at (C' := #[.bool p0, .bool p1, .bool p2, .bool false, .int .i64 p4, .float .f64 p5, .string p6, .pointer none, .pointer none, .pointer none]) r6 6 (.string p6) rfl
  have r8 := heap_set_at (C' := #[.bool p0, .bool p1, .bool p2, .bool false, .int .i64 p4, .float .f64 p5, .string p6, .pointer p7, .pointer none, .pointer none]) r7 7 (.pointer p7) rfl
  have r9 := heap_set_at (C' := #[.bool p0, .bool p1, .bool p2, .bool false, .int .i64 p4, .float .f64 p5, .string p6, .pointer p7, .pointer q8, .pointer none]) r8 8 (.pointer q8) rfl
  have r10 := heap_set_at (C' := #[.bool p0, .bool p1, .bool p2, .bool false, .int .i64 p4, .float .f64 p5, .string p6, .pointer p7, .pointer q8, .pointer q9]) r9 9 (.pointer q9) rfl
  clear r0 r1 r2 r3 r4 r5 r6 r7 r8 r9
  refine bodyPost_ret (results_cell_row rfl _ _ (w.heap.size + 1 + 1) 75 _ (0, 0) _ rfl r10 Tryz.underlying75 rfl (by kernel_rfl)) rfl ?_
  exact ⟨rfl, hk.out.trans ((((((((((((((((((Kx.refl [w.heap.size, w.heap.size + 1 + 1] W1).set (by simp) _).set (by simp) _).set (by simp) _).set (by simp) _).set (by simp) _).set (by simp) _).set (by simp) _).set (by simp) _).set (by simp) _).set (by simp) _).set (by simp) _).set (by simp) _).set (by simp) _).set (by simp) _).set (by simp) _).set (by simp) _).set (by simp) _) (fun i hi => .inr (by simp at hi; omega))⟩
end Go.Proofs.YtmicdbplkfdfnaaGreatDoor
