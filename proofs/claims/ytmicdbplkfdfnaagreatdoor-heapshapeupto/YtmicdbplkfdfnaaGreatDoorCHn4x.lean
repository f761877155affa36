/- Shape.grow, where the shape had no followers. -/
import Derived.Test.YtmicdbplkfdfnaaGreatDoorCHn1x
set_option linter.unusedVariables false
namespace Go.Proofs.YtmicdbplkfdfnaaGreatDoor
open Go.RowKit Go.Shelf Go.Maps

set_option maxRecDepth 100000 in
set_option maxHeartbeats 2000000 in
theorem grow_nil (S N M n base cnt : Nat) (v k fr nx : Value) (al kp : Bool) (L : List ByteArray) (p : Stp) (w : World)
    (hS : w.heap[S]? = some (.cells #[.pointer (some ⟨N, 0, none⟩), .int .i64 (cnt : Int), fr, nx, .bool al, .bool kp] 118 (0, 0)))
    (hN : NamesAt w base N M n v k L) (hc : L.length = cnt) (hL : L.length ≤ 1000) (hn : n ≤ 1000) (hp : p.1.size ≤ maxLen) (hbase : base ≤ w.heap.size)
    (hX : nx = .map none) :
    Calls Tryz.prog 118 #[.pointer (some ⟨S, 0, none⟩), stpV p] w fun e w' => (∃ u, e = .returned u) ∧ ∃ S' X v', w.heap.size ≤ S' ∧ w.heap.size ≤ X ∧ w'.heap[S]? = some (.cells #[.pointer (some ⟨N, 0, none⟩), .int .i64 (cnt : Int), fr, .map (some X), .bool al, .bool kp] 118 (0, 0)) ∧ w'.heap[S']? = some (.cells #[.pointer (some ⟨N, 0, none⟩), .int .i64 ((cnt : Int) + 1), .pointer (some ⟨S, 0, none⟩), .map none, .bool false, .bool false] 118 (0, 0)) ∧ PMap w' X 1 (fun t => if t = p then some S' else none) ∧ NamesAt w' base N M (n + 1) v' k (L ++ [p.1]) ∧ (∀ g, v'.ownBlock = some g → v.ownBlock = some g ∨ w.heap.size ≤ g) ∧ Kx (S :: N :: M :: v.ownBlock.toList) w w' := by
  subst hX
  obtain ⟨h1, h2, h3⟩ := hN
  obtain ⟨a, cc, rfl⟩ := owns_slice h2
  obtain ⟨ps, pa, pb, pc, pd⟩ := p
  unfold stpV stepV
  dsimp only
  dsimp only at hp
  obtain ⟨W0, hW0⟩ : ∃ W0, W0 = w.alloc (Obj.cells #[.string ps, .bool pa, .bool pb, .bool pc, .bool pd] 169) := ⟨_, rfl⟩
  have hS0 : W0.heap[S]? = some (.cells #[.pointer (some ⟨N, 0, none⟩), .int .i64 (cnt : Int), fr, .map none, .bool al, .bool kp] 118 (0, 0)) := by rw [hW0]; exact heap_old hS _
  have hN0 : W0.heap[N]? = some (.cells #[.slice a L.length cc, .map (some M), k] 121 (0, 0)) := by rw [hW0]; exact heap_old h1 _
  have hP0 : W0.heap[w.heap.size]? = some (Obj.cells #[.string ps, .bool pa, .bool pb, .bool pc, .bool pd] 169 (0, 0)) := by rw [hW0]; exact heap_alloc_new _ _
  have hr0 : W0.ownsRow base 9 1 (.slice a L.length cc) L.length (L.map Value.string) := by rw [hW0]; exact (Kx.alloc [] w _).owns h2 (fun g hg => by simp)
  have hm0 : IMap W0 M n (pf L) := by rw [hW0]; exact h3.kept (World.grownBy_alloc _ _ none) (by simp)
  have hk0 : Kx [] w W0 := by rw [hW0]; exact Kx.alloc _ _ _
  have c0 := cell_at hS0 0 rfl
  have c1 := cell_at hS0 1 rfl
  have d0 := cell_at hN0 0 rfl
  have q0 := cell_at hP0 0 rfl
  have ca := fun q => add_any N M n base (.slice a L.length cc) k L (pf L) ps (W0.drewN q) (show (W0.drewN q).heap[N]? = _ from hN0) (show (W0.drewN q).ownsRow _ _ _ _ _ _ from hr0) (show IMap (W0.drewN q) _ _ _ from hm0) hp hL hn (Nat.le_trans hbase hk0.size)
  have hSN : S ≠ N := cells_ne hS0 hN0 (by decide)
  have hSM : S ≠ M := imap_cells hm0 hS0
  have hSr : S ∉ (Value.slice a L.length cc).ownBlock.toList := row_apart hr0 hS0 (by decide)
  have hPN : w.heap.size ≠ N := cells_ne hP0 hN0 (by decide)
  have hPM : w.heap.size ≠ M := imap_cells hm0 hP0
  have hPr : w.heap.size ∉ (Value.slice a L.length cc).ownBlock.toList := row_apart hr0 hP0 (by decide)
  have FS : Hid (S ∉ N :: M :: (Value.slice a L.length cc).ownBlock.toList) := by
    show S ∉ _
    simp only [List.mem_cons, not_or]
    exact ⟨hSN, hSM, hSr⟩
  have FP : Hid (w.heap.size ∉ N :: M :: (Value.slice a L.length cc).ownBlock.toList) := by
    show w.heap.size ∉ _
    simp only [List.mem_cons, not_or]
    exact ⟨hPN, hPM, hPr⟩
  have hSP : S ≠ w.heap.size := cells_ne hS0 hP0 (by decide)
  have FSP : Hid (S ≠ w.heap.size ∧ S ≠ N ∧ S ≠ M) := ⟨hSP, hSN, hSM⟩
  have CA := (show Hid _ from ca)
  have HS0 := (show Hid _ from hS0)
  have HP0 := (show Hid _ from hP0)
  have HK0 := (show Hid _ from hk0)
  have kg : ¬ (cnt : Int) < (L.length : Int) := by omega
  rw [hW0] at c0 c1 d0 q0
  clear hSP hSN hSM hSr hPN hPM hPr h1 h2 h3 hS hS0 hN0 hP0 hr0 hm0 hk0 ca
  go_enter Tryz.func118, Tryz.ntmps118
  go_wp2
  rw [← hW0] at *
  clear hW0
  go_quiet (fail)
  go_wp2_with (first | (go_at_call 116; fail))
  refine (CA.out nq).mono ?_
  rintro e w1 ⟨⟨u, rfl⟩, v', hN1, hr1, hm1, hv1, hk1⟩
  have HV1 := (show Hid _ from hv1)
  clear hv1
  clear CA c0 c1 d0 q0
  have hS1 : w1.heap[S]? = some (.cells #[.pointer (some ⟨N, 0, none⟩), .int .i64 (cnt : Int), fr, .map none, .bool al, .bool kp] 118 (0, 0)) := hk1.get (show (W0.drewN nq).heap[S]? = _ from HS0.out) FS.out
  have hP1 : w1.heap[w.heap.size]? = some (Obj.cells #[.string ps, .bool pa, .bool pb, .bool pc, .bool pd] 169 (0, 0)) := hk1.get (show (W0.drewN nq).heap[w.heap.size]? = _ from HP0.out) FP.out
  obtain ⟨X, hXe⟩ : ∃ X, X = w1.heap.size := ⟨_, rfl⟩
  obtain ⟨W1, hW1⟩ : ∃ W1, W1 = (w1.alloc (Obj.map #[] 0)).setCell ⟨S, 3, none⟩ (.map (some w1.heap.size)) := ⟨_, rfl⟩
  have hSa : (w1.alloc (Obj.map #[] 0)).heap[S]? = some (.cells #[.pointer (some ⟨N, 0, none⟩), .int .i64 (cnt : Int), fr, .map none, .bool al, .bool kp] 118 (0, 0)) := heap_old hS1 _
  have y3 := cell_at hSa 3 rfl
  have yf := fr_all hSa 3
  have hkW : Kx [S] w1 W1 := by rw [hW1]; exact (Kx.alloc _ _ _).set (by simp) _
  have hSW : W1.heap[S]? = some (.cells #[.pointer (some ⟨N, 0, none⟩), .int .i64 (cnt : Int), fr, .map (some X), .bool al, .bool kp] 118 (0, 0)) := by rw [hW1, hXe]; exact heap_put hSa 3 _
  have hPW : W1.heap[w.heap.size]? = some (Obj.cells #[.string ps, .bool pa, .bool pb, .bool pc, .bool pd] 169 (0, 0)) := hkW.get hP1 (by simp; exact fun e => FSP.out.1 e.symm)
  have hltS := lt_get hS1
  have hx1 : PMap W1 X 0 (fun _ => none) := by
    rw [hW1, hXe]
    exact (Kx.setCell (S := [S]) _ (by simp) _).pmap (pmap_made w1) (by simp; omega)
  have hsz : W1.heap.size = w1.heap.size + 1 := by rw [hW1]; simp [World.setCell]
  have c0 := cell_at hS1 0 rfl
  have c1 := cell_at hSW 1 rfl
  have c3 := cell_at hS1 3 rfl
  have c3' := cell_at hSW 3 rfl
  have p0 := cell_at hPW 0 rfl
  have p1 := cell_at hPW 1 rfl
  have p2 := cell_at hPW 2 rfl
  have p3 := cell_at hPW 3 rfl
  have p4 := cell_at hPW 4 rfl
  have hx2a : PMap (W1.alloc (Obj.cells #[.pointer (some ⟨N, 0, none⟩), .int .i64 ((cnt : Int) + 1), .pointer (some ⟨S, 0, none⟩), .map none, .bool false, .bool false] 118)) X 0 (fun _ => none) := hx1.kept (World.grownBy_alloc _ _ none) (by simp)
  have hx2 : PMap ((W1.alloc (Obj.cells #[.pointer (some ⟨N, 0, none⟩), .int .i64 ((cnt : Int) + 1), .pointer (some ⟨S, 0, none⟩), .map none, .bool false, .bool false] 118)).drew) X 0 (fun _ => none) := hx2a
  obtain ⟨w3, hput, hx3, hg3⟩ := pmap_put hx2 (ps, pa, pb, pc, pd) hp W1.heap.size (by unfold maxLen; omega)
  have hput' : (Instr.mapUpdate 116 (.map (some X)) (.agg #[.string ps, .bool pa, .bool pb, .bool pc, .bool pd]) (.pointer (some ⟨W1.heap.size, 0, none⟩))).run Tryz.prog ((W1.alloc (Obj.cells #[.pointer (some ⟨N, 0, none⟩), .int .i64 ((cnt : Int) + 1), .pointer (some ⟨S, 0, none⟩), .map none, .bool false, .bool false] 118)).drew) = .ok () w3 := hput
  have wc : IntKind.i64.wrap ((cnt : Int) + 1) = (cnt : Int) + 1 := by rw [IntKind.wrap_i64]; omega
  have hne := mapNil_yes
  have hmm := @run_makeMap Tryz.prog
  have hks : Kx [] W1 ((W1.alloc (Obj.cells #[.pointer (some ⟨N, 0, none⟩), .int .i64 ((cnt : Int) + 1), .pointer (some ⟨S, 0, none⟩), .map none, .bool false, .bool false] 118)).drew) := (Kx.alloc _ _ _).drw1
  have hS2 := hks.get hSW (by simp)
  have hP2 := hks.get hPW (by simp)
  have hSX : S ≠ X := by omega
  have hPX2 : w.heap.size ≠ X := by
    have := lt_get hP1
    omega
  have hS3 : w3.heap[S]? = _ := (Kx.grown hg3).get hS2 (by simp; exact hSX)
  have hP3 : w3.heap[w.heap.size]? = _ := (Kx.grown hg3).get hP2 (by simp; exact hPX2)
  have HS3 := (show Hid _ from hS3)
  have HX1 : Hid (PMap W1 X 0 (fun _ => none)) := hx1
  have HKS := (show Hid _ from hks)
  have HX3 := (show Hid _ from hx3)
  have HG3 := (show Hid _ from hg3)
  have HK1 := (show Hid _ from hk1)
  have HKW := (show Hid _ from hkW)
  have HN1 := (show Hid _ from hN1)
  have HR1 : Hid (w1.ownsRow base 9 1 v' (L.length + 1) ((L ++ [ps]).map Value.string)) := hr1
  have HM1 : Hid (IMap w1 M (n + 1) (fun t => if t = ps then some L.length else pf L t)) := hm1
  have HXE : Hid (X = w1.heap.size) := hXe
  have HS1 := (show Hid (w1.heap[S]? = some (.cells #[.pointer (some ⟨N, 0, none⟩), .int .i64 (cnt : Int), fr, .map none, .bool al, .bool kp] 118 (0, 0))) from hS1)
  have HSZ : Hid (W1.heap.size = w1.heap.size + 1) := hsz
  have s1 := cell_at hS2 1 rfl
  have s3 := cell_at hS2 3 rfl
  have t0 := cell_at hP2 0 rfl
  have t1 := cell_at hP2 1 rfl
  have t2 := cell_at hP2 2 rfl
  have t3 := cell_at hP2 3 rfl
  have t4 := cell_at hP2 4 rfl
  have u1 := cell_at hS3 1 rfl
  have u3 := cell_at hS3 3 rfl
  have v0 := cell_at hP3 0 rfl
  have v1 := cell_at hP3 1 rfl
  have v2 := cell_at hP3 2 rfl
  have v3 := cell_at hP3 3 rfl
  have v4 := cell_at hP3 4 rfl
  clear hput hx3 hg3 hk1 hN1 hr1 hm1 hx2 hx2a hx1 hS1 hP1 hS2 hP2 hS3 hP3 hks hSa hSW hPW hkW hXe hsz hltS hSX hPX2
  go_wp2
  rw [← hW1]
  clear hW1
  go_region_held3 (fun Z : World => Z.cell? ⟨S, 1, none⟩ = some (.int .i64 (cnt : Int)) ∧ Z.cell? ⟨S, 3, none⟩ = some (.map (some X)) ∧ Z.cell? ⟨w.heap.size, 0, none⟩ = some (.string ps) ∧ Z.cell? ⟨w.heap.size, 1, none⟩ = some (.bool pa) ∧ Z.cell? ⟨w.heap.size, 2, none⟩ = some (.bool pb) ∧ Z.cell? ⟨w.heap.size, 3, none⟩ = some (.bool pc) ∧ Z.cell? ⟨w.heap.size, 4, none⟩ = some (.bool pd)) (first | exact ⟨c1, c3', p0, p1, p2, p3, p4⟩ | exact ⟨s1, s3, t0, t1, t2, t3, t4⟩ | exact ⟨u1, u3, v0, v1, v2, v3, v4⟩) (fail)
  refine bodyPost_end (results_none rfl _ _ _) rfl ?_
  have hk01 : Kx (S :: N :: M :: (Value.slice a L.length cc).ownBlock.toList) w w1 := (HK0.out.mono (fun i hi => by cases hi)).trans (((Kx.drewN _ W0 nq).trans HK1.out (fun i hi => .inl hi) : Kx (N :: M :: (Value.slice a L.length cc).ownBlock.toList) W0 w1)) (fun i hi => .inl (List.mem_cons_of_mem _ hi))
  have hk3 : Kx [X] W1 w3 := (HKS.out.mono (fun i hi => by cases hi)).trans (Kx.grown HG3.out) (fun i hi => .inl (by simp at hi; simp [hi]))
  have hltN := lt_get HN1.out
  have hltM : M < w1.heap.size := IMap.lt HM1.out
  have hXE := HXE.out
  have hSZ := HSZ.out
  have hs1 := hk01.size
  refine ⟨⟨_, rfl⟩, W1.heap.size, X, v', by omega, by omega, HS3.out, (Kx.grown HG3.out).get (show ((W1.alloc _).drew).heap[W1.heap.size]? = _ from heap_alloc_new _ _) (by simp; omega), HX3.out, ⟨hk3.get (HKW.out.get HN1.out (by simp; exact fun e => FSP.out.2.1 e.symm)) (by simp; omega), ?_, ?_⟩, (fun g hg => (HV1.out g hg).elim Or.inl (fun h => .inr (Nat.le_trans HK0.out.size h))), (hk01.trans HKW.out (fun i hi => .inl (by simp at hi; simp [hi]))).trans hk3 (fun i hi => .inr (by simp at hi; omega))⟩
  · have e : (L ++ [ps]).length = L.length + 1 := by simp
    rw [e]
    refine hk3.owns (HKW.out.owns HR1.out (fun g hg => ?_)) (fun g hg => ?_)
    · simp
      exact owns_ne HR1.out HS1.out (by decide) g hg
    · have hrr : w1.ownsRow base 9 1 v' (L.length + 1) ((L ++ [ps]).map Value.string) := HR1.out
      have := (hrr.lt g hg).2
      simp
      omega
  · rw [pf_snoc]
    exact hk3.imap (HKW.out.imap HM1.out (by simp; exact fun e => FSP.out.2.2 e.symm)) (by simp; omega)
end Go.Proofs.YtmicdbplkfdfnaaGreatDoor
set_option linter.unusedVariables false
namespace Go.Proofs.YtmicdbplkfdfnaaGreatDoor
open Go.RowKit Go.Shelf Go.Maps

set_option maxRecDepth 100000 in
set_option maxHeartbeats 2000000 in
theorem growP_one (S N M n base cnt : Nat) (v k fr nx : Value) (al kp : Bool) (L : List ByteArray) (p : Stp) (w : World)
    (hS : w.heap[S]? = some (.cells #[.pointer (some ⟨N, 0, none⟩), .int .i64 (cnt : Int), fr, nx, .bool al, .bool kp] 118 (0, 0)))
    (hN : NamesAt w base N M n v k L) (hc : cnt < L.length) (hs : ∀ s ∈ L, s.size ≤ maxLen) (hL : L.length ≤ 1000) (hn : n ≤ 1000) (hp : p.1.size ≤ maxLen) (hbase : base ≤ w.heap.size)
    (X nX : Nat) (fX : Stp → Option Nat) (hX : nx = .map (some X) ∧ PMap w X nX fX) (hnX : nX ≤ 1000) (hMX : M ≠ X) :
    Calls Tryz.prog 118 #[.pointer (some ⟨S, 0, none⟩), stpV p] w fun e w' => (∃ u, e = .returned u) ∧ ∃ S' N' M' v', w.heap.size ≤ S' ∧ w.heap.size ≤ N' ∧ w.heap.size ≤ M' ∧ w'.heap[S']? = some (.cells #[.pointer (some ⟨N', 0, none⟩), .int .i64 ((cnt : Int) + 1), .pointer (some ⟨S, 0, none⟩), .map none, .bool false, .bool false] 118 (0, 0)) ∧ PMap w' X (nX + 1) (fun t => if t = p then some S' else fX t) ∧ NamesAt w' w.heap.size N' M' (cnt + 1) v' (.int .i64 0) (L.take cnt ++ [p.1]) ∧ Kx [X] w w' := by
  obtain ⟨rfl, hPX⟩ := hX
  obtain ⟨h1, h2, h3⟩ := hN
  obtain ⟨a, cc, rfl⟩ := owns_slice h2
  obtain ⟨ps, pa, pb, pc, pd⟩ := p
  unfold stpV stepV
  dsimp only
  dsimp only at hp
  obtain ⟨W0, hW0⟩ : ∃ W0, W0 = w.alloc (Obj.cells #[.string ps, .bool pa, .bool pb, .bool pc, .bool pd] 169) := ⟨_, rfl⟩
  have hS0 : W0.heap[S]? = some (.cells #[.pointer (some ⟨N, 0, none⟩), .int .i64 (cnt : Int), fr, .map (some X), .bool al, .bool kp] 118 (0, 0)) := by rw [hW0]; exact heap_old hS _
  have hN0 : W0.heap[N]? = some (.cells #[.slice a L.length cc, .map (some M), k] 121 (0, 0)) := by rw [hW0]; exact heap_old h1 _
  have hP0 : W0.heap[w.heap.size]? = some (Obj.cells #[.string ps, .bool pa, .bool pb, .bool pc, .bool pd] 169 (0, 0)) := by rw [hW0]; exact heap_alloc_new _ _
  have hr0 : W0.ownsRow base 9 1 (.slice a L.length cc) L.length (L.map Value.string) := by rw [hW0]; exact (Kx.alloc [] w _).owns h2 (fun g hg => by simp)
  have hm0 : IMap W0 M n (pf L) := by rw [hW0]; exact h3.kept (World.grownBy_alloc _ _ none) (by simp)
  have hx0 : PMap W0 X nX fX := by rw [hW0]; exact hPX.kept (World.grownBy_alloc _ _ none) (by simp)
  have hk0 : Kx [] w W0 := by rw [hW0]; exact Kx.alloc _ _ _
  have c0 := cell_at hS0 0 rfl
  have c1 := cell_at hS0 1 rfl
  have d0 := cell_at hN0 0 rfl
  have q0 := cell_at hP0 0 rfl
  have cp := fun q => part_any N (.slice a L.length cc) (.map (some M)) k L cnt (W0.drewN q) base (show (W0.drewN q).heap[N]? = _ from hN0) (show (W0.drewN q).ownsRow _ _ _ _ _ _ from hr0) (by omega) hL hs
  have hltS := lt_get hS0
  have hltP := lt_get hP0
  have FL : Hid (S < W0.heap.size ∧ w.heap.size < W0.heap.size) := ⟨hltS, hltP⟩
  have hSX : S ≠ X := pmap_cells hx0 hS0
  have hPX2 : w.heap.size ≠ X := pmap_cells hx0 hP0
  have FSX : Hid (S ≠ X ∧ w.heap.size ≠ X) := ⟨hSX, hPX2⟩
  have CP := (show Hid _ from cp)
  have HS0 := (show Hid _ from hS0)
  have HP0 := (show Hid _ from hP0)
  have HX0 := (show Hid _ from hx0)
  have HK0 := (show Hid _ from hk0)
  have kg : (cnt : Int) < (L.length : Int) := by omega
  rw [hW0] at c0 c1 d0 q0
  clear hltS hltP hSX hPX2 h1 h2 h3 hS hS0 hN0 hP0 hr0 hm0 hx0 hk0 cp hPX
  go_enter Tryz.func118, Tryz.ntmps118
  go_wp2
  rw [← hW0] at *
  clear hW0
  go_quiet (fail)
  go_wp2_with (first | (go_at_call 119; fail))
  refine (CP.out nq).mono ?_
  rintro e w0 ⟨N', M', v2, rfl, hN', hM', hNN, hRR, hMM, hbb⟩
  obtain ⟨a2, c2, rfl⟩ := owns_slice hRR
  have hlp : (L.take cnt).length = cnt := by rw [List.length_take]; omega
  have hkz : Kx [] (W0.drewN nq) w0 := Kx.ofBelow hbb []
  have hSz := hkz.get (show (W0.drewN nq).heap[S]? = _ from HS0.out) (by simp)
  have hPz := hkz.get (show (W0.drewN nq).heap[w.heap.size]? = _ from HP0.out) (by simp)
  have hXz : PMap w0 X nX fX := hkz.pmap (show PMap (W0.drewN nq) X nX fX from HX0.out) (by simp)
  have hW0s : (W0.drewN nq).heap.size = W0.heap.size := rfl
  rw [hW0s] at hN' hM'
  have hRR2 : w0.ownsRow w.heap.size 9 1 (.slice a2 cnt c2) (L.take cnt).length ((L.take cnt).map Value.string) := by rw [hlp]; exact owns_low hRR (by rw [hW0s]; exact HK0.out.size)
  have ca := add_any N' M' cnt w.heap.size (.slice a2 cnt c2) (.int .i64 0) (L.take cnt) (pf (L.take cnt)) ps w0 hNN hRR2 hMM hp (by omega) (by omega) (Nat.le_trans HK0.out.size hbb.size)
  have CA := (show Hid _ from fun (_ : Unit) => ca)
  have hSN : S ≠ N' := by have := FL.out.1; omega
  have hSM : S ≠ M' := by have := FL.out.1; omega
  have hSr : S ∉ (Value.slice a2 cnt c2).ownBlock.toList := row_apart hRR hSz (by decide)
  have hPN : w.heap.size ≠ N' := by have := FL.out.2; omega
  have hPM : w.heap.size ≠ M' := by have := FL.out.2; omega
  have hPr : w.heap.size ∉ (Value.slice a2 cnt c2).ownBlock.toList := row_apart hRR hPz (by decide)
  have FS : Hid (S ∉ N' :: M' :: (Value.slice a2 cnt c2).ownBlock.toList) := by
    show S ∉ _
    simp only [List.mem_cons, not_or]
    exact ⟨hSN, hSM, hSr⟩
  have FP : Hid (w.heap.size ∉ N' :: M' :: (Value.slice a2 cnt c2).ownBlock.toList) := by
    show w.heap.size ∉ _
    simp only [List.mem_cons, not_or]
    exact ⟨hPN, hPM, hPr⟩
  have hltX := HX0.out
  have hXl : X < W0.heap.size := PMap.lt hltX
  have FX : Hid (X ∉ N' :: M' :: (Value.slice a2 cnt c2).ownBlock.toList) := by
    show X ∉ _
    simp only [List.mem_cons, not_or]
    exact ⟨by omega, by omega, pmap_apart hXz hRR⟩
  have FNX : Hid (N' ≠ X ∧ M' ≠ X) := ⟨by omega, by omega⟩
  have HXZ := (show Hid (PMap w0 X nX fX) from hXz)
  clear hltX hXl hXz
  have FR : Hid (∀ g ∈ (Value.slice a2 cnt c2).ownBlock.toList, w.heap.size ≤ g) := fun g hg => by
    cases hv : (Value.slice a2 cnt c2).ownBlock with
    | none => rw [hv] at hg; simp at hg
    | some g2 =>
      rw [hv] at hg
      simp at hg
      subst hg
      exact (hRR2.lt _ hv).1
  have q0 := cell_at hPz 0 rfl
  have HSZ0 := (show Hid _ from hSz)
  have HPZ0 := (show Hid _ from hPz)
  have HKZ := (show Hid (Kx [] (W0.drewN nq) w0) from hkz)
  have HN' : Hid (W0.heap.size ≤ N' ∧ W0.heap.size ≤ M') := ⟨hN', hM'⟩
  clear CP c0 c1 d0 hNN hRR hRR2 hMM hbb hkz hSz hPz ca hSN hSM hSr hPN hPM hPr hN' hM'
  go_wp2_with (first | (go_at_call 116; fail))
  refine (CA.out ()).mono ?_
  rintro e w1 ⟨⟨u, rfl⟩, v', hN1, hr1, hm1, -, hk1⟩
  clear CA q0
  have hS1 : w1.heap[S]? = some (.cells #[.pointer (some ⟨N, 0, none⟩), .int .i64 (cnt : Int), fr, .map (some X), .bool al, .bool kp] 118 (0, 0)) := hk1.get HSZ0.out FS.out
  have hP1 : w1.heap[w.heap.size]? = some (Obj.cells #[.string ps, .bool pa, .bool pb, .bool pc, .bool pd] 169 (0, 0)) := hk1.get HPZ0.out FP.out
  have hx1 : PMap w1 X nX fX := hk1.pmap HXZ.out FX.out
  have c0 := cell_at hS1 0 rfl
  have c1 := cell_at hS1 1 rfl
  have c3 := cell_at hS1 3 rfl
  have p0 := cell_at hP1 0 rfl
  have p1 := cell_at hP1 1 rfl
  have p2 := cell_at hP1 2 rfl
  have p3 := cell_at hP1 3 rfl
  have p4 := cell_at hP1 4 rfl
  have hx2a : PMap (w1.alloc (Obj.cells #[.pointer (some ⟨N', 0, none⟩), .int .i64 ((cnt : Int) + 1), .pointer (some ⟨S, 0, none⟩), .map none, .bool false, .bool false] 118)) X nX fX := hx1.kept (World.grownBy_alloc _ _ none) (by simp)
  have hx2 : PMap ((w1.alloc (Obj.cells #[.pointer (some ⟨N', 0, none⟩), .int .i64 ((cnt : Int) + 1), .pointer (some ⟨S, 0, none⟩), .map none, .bool false, .bool false] 118)).drew) X nX fX := hx2a
  obtain ⟨w3, hput, hx3, hg3⟩ := pmap_put hx2 (ps, pa, pb, pc, pd) hp w1.heap.size (by unfold maxLen; omega)
  have hput' : (Instr.mapUpdate 116 (.map (some X)) (.agg #[.string ps, .bool pa, .bool pb, .bool pc, .bool pd]) (.pointer (some ⟨w1.heap.size, 0, none⟩))).run Tryz.prog ((w1.alloc (Obj.cells #[.pointer (some ⟨N', 0, none⟩), .int .i64 ((cnt : Int) + 1), .pointer (some ⟨S, 0, none⟩), .map none, .bool false, .bool false] 118)).drew) = .ok () w3 := hput
  have wc : IntKind.i64.wrap ((cnt : Int) + 1) = (cnt : Int) + 1 := by rw [IntKind.wrap_i64]; omega
  have hne := mapNil_no X
  have hks : Kx [] w1 ((w1.alloc (Obj.cells #[.pointer (some ⟨N', 0, none⟩), .int .i64 ((cnt : Int) + 1), .pointer (some ⟨S, 0, none⟩), .map none, .bool false, .bool false] 118)).drew) := (Kx.alloc _ _ _).drw1
  have hS2 := hks.get hS1 (by simp)
  have hP2 := hks.get hP1 (by simp)
  have hS3 : w3.heap[S]? = _ := (Kx.grown hg3).get hS2 (by simp; exact FSX.out.1)
  have hP3 : w3.heap[w.heap.size]? = _ := (Kx.grown hg3).get hP2 (by simp; exact FSX.out.2)
  have HS3 := (show Hid _ from hS3)
  have HX1 : Hid (PMap w1 X nX fX) := hx1
  have HKS := (show Hid _ from hks)
  have HX3 := (show Hid _ from hx3)
  have HG3 := (show Hid _ from hg3)
  have HK1 := (show Hid _ from hk1)
  have HN1 := (show Hid _ from hN1)
  have HR1 : Hid (w1.ownsRow w.heap.size 9 1 v' ((L.take cnt).length + 1) ((L.take cnt ++ [ps]).map Value.string)) := hr1
  have HM1 : Hid (IMap w1 M' (cnt + 1) (fun t => if t = ps then some (L.take cnt).length else pf (L.take cnt) t)) := hm1
  have s1 := cell_at hS2 1 rfl
  have s3 := cell_at hS2 3 rfl
  have t0 := cell_at hP2 0 rfl
  have t1 := cell_at hP2 1 rfl
  have t2 := cell_at hP2 2 rfl
  have t3 := cell_at hP2 3 rfl
  have t4 := cell_at hP2 4 rfl
  have u1 := cell_at hS3 1 rfl
  have u3 := cell_at hS3 3 rfl
  have v0 := cell_at hP3 0 rfl
  have v1 := cell_at hP3 1 rfl
  have v2 := cell_at hP3 2 rfl
  have v3 := cell_at hP3 3 rfl
  have v4 := cell_at hP3 4 rfl
  clear hput hx3 hg3 hk1 hN1 hr1 hm1 hx2 hx2a hx1 hS1 hP1 hS2 hP2 hS3 hP3 hks
  go_wp2
  go_region_held3 (fun Z : World => Z.cell? ⟨S, 1, none⟩ = some (.int .i64 (cnt : Int)) ∧ Z.cell? ⟨S, 3, none⟩ = some (.map (some X)) ∧ Z.cell? ⟨w.heap.size, 0, none⟩ = some (.string ps) ∧ Z.cell? ⟨w.heap.size, 1, none⟩ = some (.bool pa) ∧ Z.cell? ⟨w.heap.size, 2, none⟩ = some (.bool pb) ∧ Z.cell? ⟨w.heap.size, 3, none⟩ = some (.bool pc) ∧ Z.cell? ⟨w.heap.size, 4, none⟩ = some (.bool pd)) (first | exact ⟨c1, c3, p0, p1, p2, p3, p4⟩ | exact ⟨s1, s3, t0, t1, t2, t3, t4⟩ | exact ⟨u1, u3, v0, v1, v2, v3, v4⟩) (fail)
  refine bodyPost_end (results_none rfl _ _ _) rfl ?_
  have hsW := HK0.out.size
  have hk01 : Kx [X] w w1 := ((HK0.out.mono (fun i hi => by cases hi)).trans (((Kx.drewN [] W0 nq).trans HKZ.out (fun i hi => by cases hi)) : Kx [] W0 w0) (fun i hi => by cases hi)).trans HK1.out (fun i hi => .inr (by
    simp only [List.mem_cons] at hi
    have h9 := HN'.out
    rcases hi with rfl | rfl | hi
    · omega
    · omega
    · exact FR.out i hi))
  have hk3 : Kx [X] w1 w3 := (HKS.out.mono (fun i hi => by cases hi)).trans (Kx.grown HG3.out) (fun i hi => .inl (by simp at hi; simp [hi]))
  have hlt1 : X < w1.heap.size := PMap.lt HX1.out
  have h9 := HN'.out
  refine ⟨⟨_, rfl⟩, w1.heap.size, N', M', v', hk01.size, by omega, by omega, (Kx.grown HG3.out).get (show ((w1.alloc _).drew).heap[w1.heap.size]? = _ from heap_alloc_new _ _) (by simp; omega), HX3.out, ⟨hk3.get HN1.out (by simp; exact FNX.out.1), ?_, ?_⟩, hk01.same hk3⟩
  · have e : (L.take cnt ++ [ps]).length = (L.take cnt).length + 1 := by simp
    rw [e]
    refine hk3.owns HR1.out (fun g hg => ?_)
    have := pmap_apart HX1.out HR1.out
    rw [hg] at this
    simp at this ⊢
    exact fun e => this e.symm
  · rw [pf_snoc]
    exact hk3.imap HM1.out (by simp; exact FNX.out.2)
end Go.Proofs.YtmicdbplkfdfnaaGreatDoor
