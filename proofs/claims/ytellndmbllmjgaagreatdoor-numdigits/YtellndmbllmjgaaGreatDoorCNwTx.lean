/- What the row's list gives: the tables of strconv. -/
import Derived.Test.YtellndmbllmjgaaGreatDoorCNt2x
import Derived.Test.YtellndmbllmjgaaGreatDoorRows
import Derived.Lib.LaidU8
import Derived.Shelf.Vars
import GoSem.PinnedTables
import Derived.Lib.LaidIn
import Derived.Lib.LaidCaseMet
import Derived.LaidHandle
import Derived.LaidLaws
import Derived.DataWitness
import Derived.Test.YtellndmbllmjgaaGreatDoorCBn2x
import Derived.Laws.OwnMore
import Derived.WalkSmall
set_option linter.unusedVariables false
namespace Go.Proofs.YtellndmbllmjgaaGreatDoor
open Go.RowKit Go.Shelf Go.Lib Fs

theorem gPow : Tryz.prog.globalNamed "internal/strconv.pow10Tab" = some 11 := by kernel_rfl
theorem gPowT : (Tryz.prog.globals[11]?).map (·.type) = some 306 := by kernel_rfl
theorem u305 : Tryz.prog.underlying 306 = some (.array 696 305) := by kernel_rfl
def fieldsOf : Option TypeDesc → Nat × List (TypeId × Nat)
  | some (.struct fs) => (1, fs.toList.map fun f => (f.type, f.offset))
  | _ => (0, [])
theorem f304 : fieldsOf (Tryz.prog.underlying 305) = (1, [(22, 0), (22, 1)]) := by kernel_rfl
theorem u304 : ∃ fs : Array Field, Tryz.prog.underlying 305 = some (.struct fs) ∧ fs.size = 2 ∧ (fs[0]?).map (fun f => (f.type, f.offset)) = some (22, 0) ∧ (fs[1]?).map (fun f => (f.type, f.offset)) = some (22, 1) := by
  have h := f304
  generalize Tryz.prog.underlying 305 = u at h
  unfold fieldsOf at h
  split at h
  · rename_i fs
    simp only [Prod.mk.injEq, true_and] at h
    have hl := congrArg List.length h
    have h0 := congrArg (·[0]?) h
    have h1 := congrArg (·[1]?) h
    simp at hl h0 h1
    refine ⟨fs, rfl, hl, ?_, ?_⟩
    · obtain ⟨x, h2, h3⟩ := h0
      rw [h2]; simp [h3]
    · obtain ⟨x, h2, h3⟩ := h1
      rw [h2]; simp [h3]
  · simp at h
theorem c304 : Tryz.prog.cellsOf 305 = 2 := by kernel_rfl
theorem c22 : Tryz.prog.cellsOf 22 = 1 := by kernel_rfl
theorem gP10 : Tryz.prog.globalNamed "internal/strconv.uint64pow10" = some 10 := by kernel_rfl
theorem gP10T : (Tryz.prog.globals[10]?).map (·.type) = some 290 := by kernel_rfl
theorem u289 : Tryz.prog.underlying 290 = some (.array 20 22) := by kernel_rfl
theorem c289 : Tryz.prog.cellsOf 290 = 20 := by kernel_rfl
/-- The table's rows are the powers of ten, as the walk takes them. -/
def powOk : Nat → List (Nat × Nat) → Bool
  | _, [] => true
  | i, (hi, lo) :: l => decide (hi < 18446744073709551616) && decide (lo < 18446744073709551616) && (pmOf i + lo == hi * 18446744073709551616) && powOk (i + 1) l
theorem powOk_at : ∀ (l : List (Nat × Nat)) (i j hi lo : Nat), powOk i l = true → l[j]? = some (hi, lo) → hi < 18446744073709551616 ∧ lo < 18446744073709551616 ∧ pmOf (i + j) + lo = hi * 18446744073709551616
  | [], _, j, _, _, _, h => by simp at h
  | (a, b) :: l, i, j, hi, lo, hc, h => by
    simp only [powOk, Bool.and_eq_true, decide_eq_true_eq, beq_iff_eq] at hc
    cases j with
    | zero =>
      simp only [List.getElem?_cons_zero, Option.some.injEq, Prod.mk.injEq] at h
      obtain ⟨rfl, rfl⟩ := h
      exact ⟨hc.1.1.1, hc.1.1.2, hc.1.2⟩
    | succ j =>
      simp only [List.getElem?_cons_succ] at h
      have := powOk_at l (i + 1) j hi lo hc.2 h
      rw [show i + (j + 1) = i + 1 + j by omega]
      exact this
theorem powOk_all : powOk 0 Go.Pinned.pow10Rows = true := by decide +kernel
theorem pow_len : Go.Pinned.pow10Rows.length = 696 := by decide +kernel
theorem powTab_of_reads {w : World} (h : VarReads Tryz.prog w "internal/strconv.pow10Tab" Go.Pinned.pow10Tab) : PowTab w := by
  intro i hi
  obtain ⟨g, t, cs, fuel, p, hg, hty, hvar, hd⟩ := h
  obtain rfl := Option.some.inj (gPow.symm.trans hg)
  obtain rfl := Option.some.inj (gPowT.symm.trans hty)
  obtain ⟨fuel', d, q, hdi, he⟩ := array_elem u305 hd i hi
  obtain ⟨⟨a, b⟩, hab⟩ : ∃ x, Go.Pinned.pow10Rows[i]? = some x := ⟨_, List.getElem?_eq_getElem (by rw [pow_len]; exact hi)⟩
  rw [List.getElem?_map, hab] at hdi
  simp only [Option.map_some, Option.some.injEq] at hdi
  subst hdi
  rw [c304] at he
  obtain ⟨fs, hu, hs, hf0, hf1⟩ := u304
  have hcs := ints_of_struct (zs := [(a : Int), (b : Int)]) hu (fun j f hj => by
    match j, hj with
    | 0, hj => rw [hj] at hf0; simp at hf0; exact ⟨by rw [hf0.1]; exact Tryz.underlying22, hf0.2, by rw [hf0.1]; exact c22⟩
    | 1, hj => rw [hj] at hf1; simp at hf1; exact ⟨by rw [hf1.1]; exact Tryz.underlying22, hf1.2, by rw [hf1.1]; exact c22⟩
    | j + 2, hj =>
      have : j + 2 < fs.size := by
        rcases Nat.lt_or_ge (j + 2) fs.size with h | h
        · exact h
        · rw [Array.getElem?_eq_none h] at hj; cases hj
      omega) (by rw [c304, hs]) he
  have e0 := congrArg (·[0]?) hcs
  have e1 := congrArg (·[1]?) hcs
  have v0 := World.var?_cell hg hvar (i * 2)
  have v1 := World.var?_cell hg hvar (i * 2 + 1)
  simp only [List.getElem?_take, List.getElem?_drop] at e0 e1
  have f := powOk_at Go.Pinned.pow10Rows 0 i a b powOk_all hab
  rw [Nat.zero_add] at f
  refine ⟨a, b, ⟨?_, ?_⟩, f⟩
  · rw [v0, ← Array.getElem?_toList]
    simpa using e0
  · rw [v1, ← Array.getElem?_toList]
    simpa using e1
theorem p10_of_reads {w : World} (h : VarReads Tryz.prog w "internal/strconv.uint64pow10" Rows.laid_internal_strconv_uint64pow10) : TabIs Tryz.prog w "internal/strconv.uint64pow10" .u64 Lib.pow10Tab := by
  have e : (Rows.laid_internal_strconv_uint64pow10 : DataW Unit) = tabData .u64 Lib.pow10Tab := by kernel_rfl
  rw [e] at h
  obtain ⟨g, t, cs, fuel, p, hg, hty, hvar, hd⟩ := h
  obtain rfl := Option.some.inj (gP10.symm.trans hg)
  obtain rfl := Option.some.inj (gP10T.symm.trans hty)
  unfold TabIs
  rw [hvar, ← cells_of_tab u289 Tryz.underlying22 c22 c289 hd]
theorem most_of_shape {w : World} (h : w.ShapedOpen Tryz.prog) : ∃ m, w.cell? ⟨6, 0, none⟩ = some (.int .i64 m) :=
  cell_of_shapedOpen_int (P := Tryz.prog) (g := 6) (t := 3) (zero := #[.int .i64 0]) h (of_decide_eq_true (by kernel_rfl)) (by kernel_rfl) rfl (by kernel_rfl) (by kernel_rfl) Tryz.underlying3
end Go.Proofs.YtellndmbllmjgaaGreatDoor
/- A world that holds the row's tables. -/
set_option linter.unusedVariables false
namespace Go.Proofs.YtellndmbllmjgaaGreatDoor
open Go.RowKit Go.Shelf Go.Lib Fs

def pair2 (x : Nat × Nat) : List Value := [.int .u64 (x.1 : Int), .int .u64 (x.2 : Int)]
def powCells : Array Value := (Go.Pinned.pow10Rows.flatMap pair2).toArray
theorem pair_drop : ∀ (l : List (Nat × Nat)) (i : Nat) (x : Nat × Nat), l[i]? = some x → ((l.flatMap pair2).drop (i * 2)).take 2 = pair2 x
  | [], i, x, h => by simp at h
  | y :: t, 0, x, h => by
    simp at h
    subst h
    simp [pair2]
  | y :: t, i + 1, x, h => by
    simp only [List.getElem?_cons_succ] at h
    rw [List.flatMap_cons, show (i + 1) * 2 = 2 + i * 2 by omega, ← List.drop_drop]
    have : (pair2 y ++ t.flatMap pair2).drop 2 = t.flatMap pair2 := rfl
    rw [this]
    exact pair_drop t i x h
theorem pair_len : ∀ (l : List (Nat × Nat)), (l.flatMap pair2).length = 2 * l.length
  | [] => rfl
  | y :: t => by
    rw [List.flatMap_cons, List.length_append, pair_len t, List.length_cons]
    simp [pair2]
    omega
theorem c305 : Tryz.prog.cellsOf 306 = 1392 := by kernel_rfl
theorem pair_reads (w : World) (a b : Nat) (ha : a < 18446744073709551616) (hb : b < 18446744073709551616) (fuel : Nat) :
    DataW.trod (fun _ => ()) Tryz.prog w 0 (fun _ => true) false (fuel + 2) 305 (pair2 (a, b)) = some (.agg [.lit (.int .u64 (a : Int)), .lit (.int .u64 (b : Int))], []) := by
  obtain ⟨fs, hu, hs, h0, h1⟩ := u304
  obtain ⟨f0, f1, hfs⟩ : ∃ f0 f1, fs.toList = [f0, f1] := by
    have hl : fs.toList.length = 2 := by simpa using hs
    match hm : fs.toList, hl with
    | [f0, f1], _ => exact ⟨f0, f1, rfl⟩
  have g0 : f0.type = 22 ∧ f0.offset = 0 := by
    rw [← Array.getElem?_toList, hfs] at h0
    simpa using h0
  have g1 : f1.type = 22 ∧ f1.offset = 1 := by
    rw [← Array.getElem?_toList, hfs] at h1
    simpa using h1
  have wa : (Lit.int .u64 (a : Int)).wf = true := by
    simp [Lit.wf, IntKind.min, IntKind.max, IntKind.bits, IntKind.signed]
    omega
  have wb : (Lit.int .u64 (b : Int)).wf = true := by
    simp [Lit.wf, IntKind.min, IntKind.max, IntKind.bits, IntKind.signed]
    omega
  simp [DataW.trod, hu, hfs, g0.1, g0.2, g1.1, g1.2, c304, c22, Tryz.underlying22, pair2, wa, wb]
theorem flat_nil (f : Nat → DataW Unit) : ∀ L : List Nat, (L.map fun i => (f i, ([] : List MemPlace))).flatMap (fun x => x.2) = []
  | [] => rfl
  | a :: L => by rw [List.map_cons, List.flatMap_cons, flat_nil f L]; rfl
def row2 (x : Nat × Nat) : DataW Unit := .agg [.lit (.int .u64 (x.1 : Int)), .lit (.int .u64 (x.2 : Int))]
theorem pairs_reads (l : List (Nat × Nat)) (hl : l.length = 696) (hok : ∀ (i a b : Nat), l[i]? = some (a, b) → a < 18446744073709551616 ∧ b < 18446744073709551616) (w : World) (fuel : Nat) :
    DataW.trod (fun _ => ()) Tryz.prog w 0 (fun _ => true) false (fuel + 3) 306 (l.flatMap pair2) = some (.agg (l.map row2), []) := by
  have hlen : (l.flatMap pair2).length = 1392 := by rw [pair_len, hl]
  have helem : ∀ i ∈ List.range 696, DataW.trod (fun _ => ()) Tryz.prog w 0 (fun _ => true) false (fuel + 2) 305 (((l.flatMap pair2).drop (i * 2)).take 2) = some ((fun i => (row2 (l.getD i (0, 0)), ([] : List MemPlace))) i) := by
    intro i hi
    have hi' := List.mem_range.1 hi
    obtain ⟨⟨a, b⟩, hab⟩ : ∃ x, l[i]? = some x := ⟨_, List.getElem?_eq_getElem (by rw [hl]; exact hi')⟩
    have f := hok i a b hab
    have hg : l.getD i (0, 0) = (a, b) := by rw [List.getD_eq_getElem?_getD, hab]; rfl
    rw [pair_drop _ i _ hab, pair_reads w a b f.1 f.2 fuel]
    simp only [hg]
    rfl
  have e : (List.range 696).map (fun i => row2 (l.getD i (0, 0))) = l.map row2 := by
    apply List.ext_getElem?
    intro i
    by_cases hi : i < 696
    · have hi2 : i < l.length := by rw [hl]; exact hi
      have hg : l.getD i (0, 0) = l[i] := by rw [List.getD_eq_getElem?_getD, List.getElem?_eq_getElem hi2]; rfl
      rw [List.getElem?_map, List.getElem?_range hi, List.getElem?_map, List.getElem?_eq_getElem hi2]
      simp only [Option.map_some, hg]
    · rw [List.getElem?_eq_none (by simp; omega), List.getElem?_eq_none (by rw [List.length_map, hl]; omega)]
  show DataW.trod _ _ _ _ _ _ ((fuel + 2) + 1) _ _ = _
  unfold DataW.trod
  simp only [u305, c304, c305]
  rw [if_pos hlen, mapM_some _ _ _ helem]
  have e4 := flat_nil (fun i => row2 (l.getD i (0, 0))) (List.range 696)
  rw [Option.map_some, e4, List.map_map]
  have e5 : (fun x : DataW Unit × List MemPlace => x.1) ∘ (fun i => (row2 (l.getD i (0, 0)), ([] : List MemPlace))) = fun i => row2 (l.getD i (0, 0)) := rfl
  rw [e5, e]
theorem pow_reads (w : World) (fuel : Nat) : DataW.trod (fun _ => ()) Tryz.prog w 0 (fun _ => true) false (fuel + 3) 306 powCells.toList = some (Go.Pinned.pow10Tab, []) :=
  pairs_reads Go.Pinned.pow10Rows pow_len (fun i a b h => let f := powOk_at Go.Pinned.pow10Rows 0 i a b powOk_all h; ⟨f.1, f.2.1⟩) w fuel
theorem pow_noiface (u : TypeId) (v : Value) (i : Nat) : powCells[i]? ≠ some (.iface u v) := by
  intro hc
  unfold powCells at hc
  rw [List.getElem?_toArray] at hc
  have hm := List.mem_of_getElem? hc
  obtain ⟨x, _, hx⟩ := List.mem_flatMap.1 hm
  unfold pair2 at hx
  simp at hx
theorem cell_at {w : World} {g : Nat} {C : Array Value} {t : TypeId} (h : w.heap[g]? = some (.cells C t (0, 0))) (i : Nat) : w.cell? ⟨g, i, none⟩ = C[i]? := by
  unfold World.cell?
  simp only [h]
  rfl
theorem arr_in (C : Array Value) (hno : ∀ (u : TypeId) (v : Value) (i : Nat), C[i]? ≠ some (Value.iface u v)) (hread : ∀ w : World, DataW.trod (fun _ => ()) Tryz.prog w 0 (fun _ => true) false 3 306 C.toList = some (Go.Pinned.pow10Tab, [])) {w : World} (hb : w.heap[11]? = some (.cells C 306 (0, 0))) (hv : w.var? Tryz.prog "internal/strconv.pow10Tab" = some C) : LaidIn Tryz.prog w [("internal/strconv.pow10Tab", Go.Pinned.pow10Tab)] [11] := by
  generalize Go.Pinned.pow10Tab = D at *
  refine LaidIn.one (fuel := 3) (p := []) [11] gPow gPowT hv (hread w) (by rw [List.append_nil]; exact rowP_nodup _ _) ?_ ?_
  · intro b off hm
    rw [List.append_nil] at hm
    obtain ⟨i, hi, e⟩ := MemPlace.mem_row.1 hm
    simp at e
    obtain ⟨rfl, rfl⟩ := e
    refine ⟨⟨_, _, hb⟩, fun u v hc => ?_⟩
    have hc2 := cell_at hb off
    rw [hc] at hc2
    have hF : False := hno u v off hc2.symm
    cases hF
  · intro x hm
    rw [List.append_nil] at hm
    obtain ⟨i, hi, rfl⟩ := MemPlace.mem_row.1 hm
    exact List.mem_singleton.2 rfl
theorem pow_in {w : World} (hb : w.heap[11]? = some (.cells powCells 306 (0, 0))) (hv : w.var? Tryz.prog "internal/strconv.pow10Tab" = some powCells) : LaidIn Tryz.prog w [("internal/strconv.pow10Tab", Go.Pinned.pow10Tab)] [11] :=
  arr_in powCells pow_noiface (fun w => pow_reads w 0) hb hv
/-- The other tables, cell by cell. -/
def u8s : DataW Unit → Array Value
  | .agg l => (l.flatMap fun | .lit (.int k z) => [Value.int k z] | .agg m => m.flatMap (fun | .lit (.int k z) => [Value.int k z] | _ => []) | _ => []).toArray
  | _ => #[]
def cheatCells : Array Value := (Go.Pinned.cheatRows.flatMap fun x => [Value.int .i64 (x.1 : Int), .string ⟨x.2.toArray⟩]).toArray
def laidB (cs : Array Value) : Obj → Obj
  | .cells _ t frozen => .cells cs t frozen
  | o => o
def newBlocks : Array Obj := #[.cells #[.string ⟨#[118, 97, 108, 117, 101, 32, 111, 117, 116, 32, 111, 102, 32, 114, 97, 110, 103, 101]⟩] 298, .cells #[.string ⟨#[105, 110, 118, 97, 108, 105, 100, 32, 115, 121, 110, 116, 97, 120]⟩] 298, .cells cheatCells 310]
/-- A world with the tables laid. -/
def laidW (w : World) (N : Nat) : World := { w with heap := (((((((((((w.heap.modify 13 (laidB (u8s Rows.laid_math_bits_deBruijn32tab))).modify 4 (laidB (u8s Rows.laid_math_bits_deBruijn64tab))).modify 7 (laidB #[.bool true])).modify 10 (laidB (u8s Rows.laid_internal_strconv_uint64pow10))).modify 2 (laidB (u8s Rows.laid_unicode_utf8_acceptRanges))).modify 9 (laidB #[.iface 296 (.pointer (some ⟨N, 0, none⟩))])).modify 8 (laidB #[.iface 296 (.pointer (some ⟨N + 1, 0, none⟩))])).modify 12 (laidB #[.slice (some ⟨N + 2, 0, none⟩) 61 61])).modify 1 (laidB (u8s Go.Pinned.utf8First))).modify 11 (laidB powCells)).modify 5 (laidB #[.iface 262 (.agg #[.pointer (some ⟨20, 79, none⟩)])])) }
end Go.Proofs.YtellndmbllmjgaaGreatDoor
/- The world holds the row's tables. -/
set_option linter.unusedVariables false
namespace Go.Proofs.YtellndmbllmjgaaGreatDoor
open Go.RowKit Go.Shelf Go.Lib Fs

theorem piece0 (os : Os) : LaidIn Tryz.prog ((laidW (World.holding Tryz.prog os ⟨newBlocks, #[], []⟩) (World.settled Tryz.prog os).heap.size).forCall (fun _ _ => 0) ⟨#[], #[.int .u64 0, .int .i64 0, .int .i64 0], []⟩).memory (Rows.numWrittenRow.laid.take 5) [13, 4, 7, 10, 2] :=
  LaidIn.of_run _ 8 (by kernel_rfl) (by kernel_rfl) (by kernel_rfl) (by kernel_rfl)
theorem piece1 (os : Os) : LaidIn Tryz.prog ((laidW (World.holding Tryz.prog os ⟨newBlocks, #[], []⟩) (World.settled Tryz.prog os).heap.size).forCall (fun _ _ => 0) ⟨#[], #[.int .u64 0, .int .i64 0, .int .i64 0], []⟩).memory ((Rows.numWrittenRow.laid.drop 5).take 2) [9, 8, (World.settled Tryz.prog default).heap.size, (World.settled Tryz.prog default).heap.size + 1] :=
  LaidIn.of_run _ 8 (by kernel_rfl) (by kernel_rfl) (by kernel_rfl) (by kernel_rfl)
theorem piece2 (os : Os) : LaidIn Tryz.prog ((laidW (World.holding Tryz.prog os ⟨newBlocks, #[], []⟩) (World.settled Tryz.prog os).heap.size).forCall (fun _ _ => 0) ⟨#[], #[.int .u64 0, .int .i64 0, .int .i64 0], []⟩).memory ((Rows.numWrittenRow.laid.drop 7).take 1) [12, (World.settled Tryz.prog default).heap.size + 2] :=
  LaidIn.of_run _ 8 (by kernel_rfl) (by kernel_rfl) (by kernel_rfl) (by kernel_rfl)
theorem piece4 (os : Os) : LaidIn Tryz.prog ((laidW (World.holding Tryz.prog os ⟨newBlocks, #[], []⟩) (World.settled Tryz.prog os).heap.size).forCall (fun _ _ => 0) ⟨#[], #[.int .u64 0, .int .i64 0, .int .i64 0], []⟩).memory (Rows.numWrittenRow.laid.drop 9) [1] :=
  LaidIn.of_run _ 8 (by kernel_rfl) (by kernel_rfl) (by kernel_rfl) (by kernel_rfl)
end Go.Proofs.YtellndmbllmjgaaGreatDoor
/- The table of powers, and all of them. -/
set_option linter.unusedVariables false
namespace Go.Proofs.YtellndmbllmjgaaGreatDoor
open Go.RowKit Go.Shelf Go.Lib Fs

theorem piece3 (os : Os) : LaidIn Tryz.prog ((laidW (World.holding Tryz.prog os ⟨newBlocks, #[], []⟩) (World.settled Tryz.prog os).heap.size).forCall (fun _ _ => 0) ⟨#[], #[.int .u64 0, .int .i64 0, .int .i64 0], []⟩).memory ((Rows.numWrittenRow.laid.drop 8).take 1) [11] :=
  pow_in (by kernel_rfl) (by kernel_rfl)
theorem laid_met (os : Os) : laidMet Tryz.prog Rows.numWrittenRow.laid ((laidW (World.holding Tryz.prog os ⟨newBlocks, #[], []⟩) (World.settled Tryz.prog os).heap.size).forCall (fun _ _ => 0) ⟨#[], #[.int .u64 0, .int .i64 0, .int .i64 0], []⟩).memory :=
  (((((piece0 os).append (piece1 os) (by kernel_rfl)).append (piece2 os) (by kernel_rfl)).append (piece3 os) (by kernel_rfl)).append (piece4 os) (by kernel_rfl)).met
theorem laid_part : (Rows.numDigitsRow.laid.filter fun x => x.2.handleName?.isNone) = Rows.numWrittenRow.laid := by kernel_rfl
theorem laid_metH (os : Os) : laidMetH Tryz.prog Rows.numDigitsRow.laid ((laidW (World.holding Tryz.prog os ⟨newBlocks, #[], []⟩) (World.settled Tryz.prog os).heap.size).forCall (fun _ _ => 0) ⟨#[], #[.int .u64 0, .int .i64 0, .int .i64 0], []⟩).memory :=
  laidMetH_of_parts (by rw [laid_part]; exact laid_met os) (by kernel_rfl)
end Go.Proofs.YtellndmbllmjgaaGreatDoor
/- The world's variables are as their types ask. -/
set_option linter.unusedVariables false
namespace Go.Proofs.YtellndmbllmjgaaGreatDoor
open Go.RowKit Go.Shelf Go.Lib Fs

theorem ct305 : Tryz.prog.cellTypes Tryz.prog.depth 306 = some (List.replicate 1392 22) := by kernel_rfl
theorem cell_u64 (w : World) (z : Nat) (hz : z < 18446744073709551616) : Cell.okRefB Tryz.prog w 22 (.int .u64 (z : Int)) = true := by
  have hw : (Lit.int .u64 (z : Int)).wf = true := by
    simp [Lit.wf, IntKind.min, IntKind.max, IntKind.bits, IntKind.signed]
    omega
  unfold Cell.okRefB
  rw [Tryz.underlying22]
  simp only [Cell.okB, Tryz.underlying22]
  have h1 : IntKind.u64.min = 0 := by decide
  have h2 : IntKind.u64.max = 18446744073709551615 := by decide
  rw [h1, h2]
  simp
  omega
theorem pow_size : powCells.size = 1392 := by
  unfold powCells
  rw [List.size_toArray, pair_len, pow_len]
theorem pow_cell (i : Nat) (hi : i < 1392) : ∃ z : Nat, z < 18446744073709551616 ∧ powCells[i]? = some (.int .u64 (z : Int)) := by
  have h1 : powCells[i]? = some (powCells[i]'(by rw [pow_size]; exact hi)) := Array.getElem?_eq_getElem _
  have h2 : powCells[i]? = (Go.Pinned.pow10Rows.flatMap pair2)[i]? := by unfold powCells; rw [List.getElem?_toArray]
  rw [h2] at h1
  have hm := List.mem_of_getElem? h1
  obtain ⟨x, hx, hx2⟩ := List.mem_flatMap.1 hm
  obtain ⟨j, hj⟩ := List.mem_iff_getElem?.1 hx
  have f := powOk_at Go.Pinned.pow10Rows 0 j x.1 x.2 powOk_all hj
  unfold pair2 at hx2
  rw [h2, h1]
  simp only [List.mem_cons, List.mem_nil_iff, or_false] at hx2
  rcases hx2 with e | e
  · exact ⟨x.1, f.1, by rw [e]⟩
  · exact ⟨x.2, f.2.1, by rw [e]⟩
theorem pow_ok (w : World) : Row.okRefB Tryz.prog w 306 powCells = true := by
  unfold Row.okRefB
  rw [ct305]
  simp only [pow_size, List.length_replicate, Nat.mod_self, beq_self_eq_true, Bool.true_and]
  rw [List.all_eq_true]
  intro i hi
  have hi' := List.mem_range.1 hi
  obtain ⟨z, hz, hc⟩ := pow_cell i hi'
  rw [hc, Nat.mod_eq_of_lt hi', List.getElem?_replicate, if_pos hi']
  exact cell_u64 w z hz
theorem begin11 : (((begin Tryz.prog (fun _ _ => 0) default).world.heap[11]?).bind Obj.row?).map (fun x => (x.1.size, x.2)) = some (1392, 306) := by kernel_rfl
theorem heap11 (os : Os) : ((laidW (World.holding Tryz.prog os ⟨newBlocks, #[], []⟩) (World.settled Tryz.prog os).heap.size).forCall (fun _ _ => 0) ⟨#[], #[.int .u64 0, .int .i64 0, .int .i64 0], []⟩).heap[11]? = some (.cells powCells 306 (0, 0)) := by kernel_rfl
theorem gsize : Tryz.prog.globals.size = 20 := by kernel_rfl
/-- What is asked of one variable. -/
noncomputable def varB (w : World) (g : Nat) : Bool :=
  match ((begin Tryz.prog (fun _ _ => 0) default).world.heap[g]?).bind Obj.row? with
  | none => true
  | some (zero, t) =>
    match w.heap[g]? with
    | some (.cells cs t' frozen) => decide (t' = t) && decide (frozen = (0, 0)) && cs.size == zero.size && (!Tryz.prog.buildable t || Row.okRefB Tryz.prog w t cs)
    | _ => false
theorem var11 (os : Os) : varB ((laidW (World.holding Tryz.prog os ⟨newBlocks, #[], []⟩) (World.settled Tryz.prog os).heap.size).forCall (fun _ _ => 0) ⟨#[], #[.int .u64 0, .int .i64 0, .int .i64 0], []⟩) 11 = true := by
  have h1 := begin11
  have h2 := heap11 os
  unfold varB
  generalize ((laidW (World.holding Tryz.prog os ⟨newBlocks, #[], []⟩) (World.settled Tryz.prog os).heap.size).forCall (fun _ _ => 0) ⟨#[], #[.int .u64 0, .int .i64 0, .int .i64 0], []⟩) = W at *
  obtain ⟨⟨zero, t⟩, h3, h4⟩ := Option.map_eq_some_iff.1 h1
  simp only [Prod.mk.injEq] at h4
  obtain ⟨h5, rfl⟩ := h4
  rw [h3, h2]
  simp only [pow_ok W, pow_size, h5, Bool.or_true, decide_true, beq_self_eq_true, Bool.and_self]
theorem varsL (os : Os) : ((List.range 11).all fun g => varB ((laidW (World.holding Tryz.prog os ⟨newBlocks, #[], []⟩) (World.settled Tryz.prog os).heap.size).forCall (fun _ _ => 0) ⟨#[], #[.int .u64 0, .int .i64 0, .int .i64 0], []⟩) g) = true := by kernel_rfl
theorem varsR (os : Os) : ((List.range 8).all fun g => varB ((laidW (World.holding Tryz.prog os ⟨newBlocks, #[], []⟩) (World.settled Tryz.prog os).heap.size).forCall (fun _ _ => 0) ⟨#[], #[.int .u64 0, .int .i64 0, .int .i64 0], []⟩) (g + 12)) = true := by kernel_rfl
theorem vars (os : Os) : ((laidW (World.holding Tryz.prog os ⟨newBlocks, #[], []⟩) (World.settled Tryz.prog os).heap.size).forCall (fun _ _ => 0) ⟨#[], #[.int .u64 0, .int .i64 0, .int .i64 0], []⟩).variablesRefB Tryz.prog = true := by
  have h1 := varsL os
  have h2 := varsR os
  have h3 := var11 os
  generalize ((laidW (World.holding Tryz.prog os ⟨newBlocks, #[], []⟩) (World.settled Tryz.prog os).heap.size).forCall (fun _ _ => 0) ⟨#[], #[.int .u64 0, .int .i64 0, .int .i64 0], []⟩) = W at *
  have all : ∀ g, g < 20 → varB W g = true := by
    intro g hg
    rcases Nat.lt_trichotomy g 11 with h | h | h
    · exact List.all_eq_true.1 h1 g (List.mem_range.2 h)
    · rw [h]; exact h3
    · have := List.all_eq_true.1 h2 (g - 12) (List.mem_range.2 (by omega))
      rw [show g - 12 + 12 = g by omega] at this
      exact this
  unfold World.variablesRefB
  rw [gsize, List.all_eq_true]
  intro g hg
  exact all g (List.mem_range.1 hg)
end Go.Proofs.YtellndmbllmjgaaGreatDoor
/- The program's whole numbers: words of 32 bits. -/
set_option linter.unusedVariables false
namespace Go.Proofs.YtellndmbllmjgaaGreatDoor
open Go.RowKit Go.Shelf Go.Sort Fs Fl

def val32 : List Nat → Nat
  | [] => 0
  | d :: l => d + 4294967296 * val32 l
def W32 (L : List Nat) : Prop := ∀ d ∈ L, d < 4294967296
/-- The slice v holds the words L; its row is one of the call's own. -/
def Own (base : Nat) (w : World) (v : Value) (L : List Nat) : Prop := w.ownsRow base 108 1 v L.length (L.map dv)
theorem Own.forms {base : Nat} {w : World} {v : Value} {L : List Nat} (h : Own base w v L) : (v = .slice none 0 0 ∧ L = []) ∨ ∃ g cap, v = .slice (some ⟨g, 0, none⟩) L.length cap ∧ base ≤ g ∧ g < w.heap.size ∧ L.length ≤ cap := by
  rcases h.2 with ⟨rfl, h0⟩ | ⟨g, cap, cur, rfl, hbg, hg, hle, hcap, hsz, htk⟩
  · exact .inl ⟨rfl, List.eq_nil_of_length_eq_zero h0⟩
  · exact .inr ⟨g, cap, rfl, hbg, lt_of_get hg, hle⟩
theorem Own.cell {base : Nat} {w : World} {g cap : Nat} {L : List Nat} (h : Own base w (.slice (some ⟨g, 0, none⟩) L.length cap) L) (j : Nat) (hj : j < L.length) : w.cell? ⟨g, j, none⟩ = some (.int .u32 ((L[j]?.getD 0 : Nat) : Int)) := by
  have := World.ownsRow.cellAt h j (by omega)
  rw [this, List.getElem?_map, List.getElem?_eq_getElem hj]
  rfl
theorem Own.frozen {base : Nat} {w : World} {g cap : Nat} {L : List Nat} (h : Own base w (.slice (some ⟨g, 0, none⟩) L.length cap) L) (j : Nat) : w.frozen? ⟨g, j, none⟩ = false := World.ownsRow.frozenAt h j
theorem Own.set {base : Nat} {w : World} {g cap : Nat} {L : List Nat} (h : Own base w (.slice (some ⟨g, 0, none⟩) L.length cap) L) (j d : Nat) : Own base (w.setCell ⟨g, j, none⟩ (.int .u32 (d : Int))) (.slice (some ⟨g, 0, none⟩) (L.set j d).length cap) (L.set j d) := by
  have := (World.ownsRow.stored h j (.int .u32 (d : Int))).1
  unfold Own
  rw [List.length_set, List.map_set]
  exact this
theorem Own.drewN {base : Nat} {w : World} {v : Value} {L : List Nat} (h : Own base w v L) (n : Nat) : Own base (w.drewN n) v L := h
theorem ownsRow_low {w w' : World} {base e n : Nat} {v : Value} {xs : List Value} (h : w.ownsRow base e 1 v n xs) (hb : Below w.heap.size w w') : w'.ownsRow base e 1 v n xs := by
  refine ⟨h.1, ?_⟩
  rcases h.2 with h1 | ⟨g, cap, cur, hv, hbg, hg, hr⟩
  · exact .inl h1
  · exact .inr ⟨g, cap, cur, hv, hbg, (hb.block g (lt_of_get hg)).trans hg, hr⟩
theorem Own.below {base : Nat} {w w' : World} {v : Value} {L : List Nat} (h : Own base w v L) (hb : Below w.heap.size w w') : Own base w' v L := ownsRow_low h hb
theorem Own.pop {base : Nat} {w : World} {g cap z : Nat} {L : List Nat} (h : Own base w (.slice (some ⟨g, 0, none⟩) (L ++ [z]).length cap) (L ++ [z])) : Own base w (.slice (some ⟨g, 0, none⟩) L.length cap) L := by
  unfold Own at h ⊢
  rw [List.map_append, List.length_append] at h
  exact ownsRow_pop (by simp) h
/-- Without the noughts above. -/
def Top (L : List Nat) : Prop := ∀ z, L.getLast? = some z → z ≠ 0
def slN : Value → Nat
  | .slice _ n _ => n
  | _ => 0
inductive TrR (base g cap : Nat) (w : World) (L : List Nat) : Value → World → Prop
  | mk (M : List Nat) (k n : Nat) (hn : M.length = n) (hL : L = M ++ List.replicate k 0) (hO : Own base w (.slice (some ⟨g, 0, none⟩) M.length cap) M) : TrR base g cap w L (.slice (some ⟨g, 0, none⟩) n cap) w
set_option maxRecDepth 100000 in
set_option maxHeartbeats 1000000 in
theorem trimmed_some (base g cap : Nat) (L : List Nat) (hl : L.length ≤ 100000) (w : World) (hv : Own base w (.slice (some ⟨g, 0, none⟩) L.length cap) L) :
    Calls Tryz.prog 158 #[.slice (some ⟨g, 0, none⟩) L.length cap] w fun e w' => ∃ M k, e = .returned (.slice (some ⟨g, 0, none⟩) M.length cap) ∧ Own base w (.slice (some ⟨g, 0, none⟩) M.length cap) M ∧ L = M ++ List.replicate k 0 ∧ Top M ∧ w' = w := by
  have hlc : L.length ≤ cap := by
    rcases hv.forms with ⟨h, _⟩ | ⟨g', cap', h, _, _, h3⟩
    · cases h
    · cases h; exact h3
  have HV : Hid (Own base w (.slice (some ⟨g, 0, none⟩) L.length cap) L) := hv
  have HL : Hid (L.length ≤ 100000 ∧ L.length ≤ cap) := ⟨hl, hlc⟩
  clear hv hl hlc
  go_enter Tryz.func158, Tryz.ntmps158
  go_wp2
  go_loopw [0] (fun v wr => TrR base g cap w L v wr) (fun v _ => slN v)
  case atStart => exact .mk L 0 _ rfl (by simp) HV.out
  case round =>
    obtain ⟨M, k, n, hn, hL, hO⟩ := hrel
    have HO : Hid (Own base w (.slice (some ⟨g, 0, none⟩) M.length cap) M) := hO
    have HE : Hid (L = M ++ List.replicate k 0) := hL
    have HN : Hid (M.length = n) := hn
    have hnb : n ≤ 100000 ∧ n ≤ cap := by
      have := HL.out
      rw [hL, List.length_append, List.length_replicate] at this
      omega
    obtain ⟨hn1, hn2⟩ := hnb
    rcases List.eq_nil_or_concat M with hM | ⟨M', z, hM⟩
    · have h0 : n = 0 := by rw [← hn, hM]; rfl
      subst h0
      clear hn hL hO
      go_wp2
      go_ret
      refine ⟨[], k, rfl, ?_, by rw [HE.out, hM], fun z hz => by simp at hz, rfl⟩
      have := HO.out
      rw [hM] at this
      exact this
    · obtain ⟨m, hm⟩ : ∃ m, M'.length = m := ⟨_, rfl⟩
      have hnm : n = m + 1 := by rw [← hn, hM]; simp; omega
      have hcell := hO.cell m (by omega)
      have hz : M[m]?.getD 0 = z := by rw [hM, ← hm]; simp
      rw [hz] at hcell
      subst hnm
      have k0 : (0 : Int) < ((m + 1 : Nat) : Int) := by omega
      have k1 : ((m + 1 : Nat) : Int) - 1 = (m : Int) := by omega
      have k2 : (m : Int) < ((m + 1 : Nat) : Int) := by omega
      have HM : Hid (M = M'.concat z) := hM
      have Hm : Hid (M'.length = m) := hm
      clear hn hL hO hM hm hz
      by_cases hz0 : z = 0
      · subst hz0
        go_wp2
        refine ⟨.mk M' (k + 1) m Hm.out ?_ ?_, by simp [slN]⟩
        · rw [HE.out, HM.out, List.concat_eq_append, List.append_assoc, List.replicate_succ]
          rfl
        · have := HO.out
          rw [HM.out, List.concat_eq_append] at this
          exact this.pop
      · have hzz : ((z : Int) == 0) = false := by rw [beq_eq_false_iff_ne]; omega
        go_wp2
        go_ret
        refine ⟨M, k, by rw [HN.out]; rfl, ?_, HE.out, ?_, rfl⟩
        · exact HO.out
        · intro y hy
          rw [HM.out] at hy
          simp at hy
          omega
set_option maxRecDepth 100000 in
set_option maxHeartbeats 1000000 in
theorem trimmed_any (base : Nat) (v : Value) (L : List Nat) (hl : L.length ≤ 100000) (w : World) (hv : Own base w v L) :
    Calls Tryz.prog 158 #[v] w fun e w' => ∃ v' M k, e = .returned v' ∧ Own base w v' M ∧ L = M ++ List.replicate k 0 ∧ Top M ∧ w' = w := by
  rcases hv.forms with ⟨rfl, rfl⟩ | ⟨g, cap, rfl, hg0, hg1, hlc⟩
  · have HV : Hid (Own base w (.slice none 0 0) []) := hv
    clear hv
    go_enter Tryz.func158, Tryz.ntmps158
    go_wp2
    go_loopw [0] (fun v wr => v = .slice none 0 0 ∧ wr = w) (fun _ _ => 0)
    case atStart => exact ⟨rfl, rfl⟩
    case round =>
      obtain ⟨rfl, rfl⟩ := hrel
      go_wp2
      go_ret
      exact ⟨_, [], 0, rfl, HV.out, rfl, fun z hz => by simp at hz, rfl⟩
  · refine (trimmed_some base g cap L hl w hv).mono ?_
    rintro e w' ⟨M, k, rfl, h1, h2, h3, rfl⟩
    exact ⟨_, M, k, rfl, h1, h2, h3, rfl⟩
end Go.Proofs.YtellndmbllmjgaaGreatDoor
