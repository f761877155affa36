/- A world that holds the row's tables. -/
import Derived.Test.YtellndmbllmjgaaGreatDoorCRp2x
import Derived.Lib.LaidIn
import Derived.Lib.LaidCaseMet
import Derived.LaidLaws
import Derived.DataWitness
import Derived.Test.YtellndmbllmjgaaGreatDoorRows
import Derived.ProofKit
import Derived.OpenShut
import Derived.ChangeOld
import Derived.ChangeMaps5
import Derived.Deep.DeepHandedRow
import Derived.Deep.DeepWitnessRowRef
import Derived.MakeChecks
set_option linter.unusedVariables false
namespace Go.Proofs.YtellndmbllmjgaaGreatDoor
open Go.RowKit Go.Shelf Go.Lib Fs

def pair2 (x : Nat × Nat) : List Value := [.int .u64 (x.1 : Int), .int .u64 (x.2 : Int)]
def powCells : Array Value := (Go.Pinned.pow10Rows.flatMap pair2).toArray
theorem pair_drop : ∀ (l : List (Nat × Nat)) (i : Nat) (x : Nat × Nat), l[i]? = some x → ((l.flatMap pair2).drop (i * 2)).take 2 = pair2 x
  | [], i, x, h => by simp at h
  | y :: t, 0, x, h => by
    simp at h
    subst h
    simp [pair2]
  | y :: t, i + 1, x, h => by
    simp only [List.getElem?_cons_succ] at h
    rw [List.flatMap_cons, show (i + 1) * 2 = 2 + i * 2 by omega, ← List.drop_drop]
    have : (pair2 y ++ t.flatMap pair2).drop 2 = t.flatMap pair2 := rfl
    rw [this]
    exact pair_drop t i x h
theorem pair_len : ∀ (l : List (Nat × Nat)), (l.flatMap pair2).length = 2 * l.length
  | [] => rfl
  | y :: t => by
    rw [List.flatMap_cons, List.length_append, pair_len t, List.length_cons]
    simp [pair2]
    omega
theorem c305 : Tryz.prog.cellsOf 306 = 1392 := by kernel_rfl
theorem pair_reads (w : World) (a b : Nat) (ha : a < 18446744073709551616) (hb : b < 18446744073709551616) (fuel : Nat) :
    DataW.trod (fun _ => ()) Tryz.prog w 0 (fun _ => true) false (fuel + 2) 305 (pair2 (a, b)) = some (.agg [.lit (.int .u64 (a : Int)), .lit (.int .u64 (b : Int))], []) := by
  obtain ⟨fs, hu, hs, h0, h1⟩ := u304
  obtain ⟨f0, f1, hfs⟩ : ∃ f0 f1, fs.toList = [f0, f1] := by
    have hl : fs.toList.length = 2 := by simpa using hs
    match hm : fs.toList, hl with
    | [f0, f1], _ => exact ⟨f0, f1, rfl⟩
  have g0 : f0.type = 22 ∧ f0.offset = 0 := by
    rw [← Array.getElem?_toList, hfs] at h0
    simpa using h0
  have g1 : f1.type = 22 ∧ f1.offset = 1 := by
    rw [← Array.getElem?_toList, hfs] at h1
    simpa using h1
  have wa : (Lit.int .u64 (a : Int)).wf = true := by
    simp [Lit.wf, IntKind.min, IntKind.max, IntKind.bits, IntKind.signed]
    omega
  have wb : (Lit.int .u64 (b : Int)).wf = true := by
    simp [Lit.wf, IntKind.min, IntKind.max, IntKind.bits, IntKind.signed]
    omega
  simp [DataW.trod, hu, hfs, g0.1, g0.2, g1.1, g1.2, c304, c22, Tryz.underlying22, pair2, wa, wb]
theorem flat_nil (f : Nat → DataW Unit) : ∀ L : List Nat, (L.map fun i => (f i, ([] : List MemPlace))).flatMap (fun x => x.2) = []
  | [] => rfl
  | a :: L => by rw [List.map_cons, List.flatMap_cons, flat_nil f L]; rfl
def row2 (x : Nat × Nat) : DataW Unit := .agg [.lit (.int .u64 (x.1 : Int)), .lit (.int .u64 (x.2 : Int))]
theorem pairs_reads (l : List (Nat × Nat)) (hl : l.length = 696) (hok : ∀ (i a b : Nat), l[i]? = some (a, b) → a < 18446744073709551616 ∧ b < 18446744073709551616) (w : World) (fuel : Nat) :
    DataW.trod (fun _ => ()) Tryz.prog w 0 (fun _ => true) false (fuel + 3) 306 (l.flatMap pair2) = some (.agg (l.map row2), []) := by
  have hlen : (l.flatMap pair2).length = 1392 := by rw [pair_len, hl]
  have helem : ∀ i ∈ List.range 696, DataW.trod (fun _ => ()) Tryz.prog w 0 (fun _ => true) false (fuel + 2) 305 (((l.flatMap pair2).drop (i * 2)).take 2) = some ((fun i => (row2 (l.getD i (0, 0)), ([] : List MemPlace))) i) := by
    intro i hi
    have hi' := List.mem_range.1 hi
    obtain ⟨⟨a, b⟩, hab⟩ : ∃ x, l[i]? = some x := ⟨_, List.getElem?_eq_getElem (by rw [hl]; exact hi')⟩
    have f := hok i a b hab
    have hg : l.getD i (0, 0) = (a, b) := by rw [List.getD_eq_getElem?_getD, hab]; rfl
    rw [pair_drop _ i _ hab, pair_reads w a b f.1 f.2 fuel]
    simp only [hg]
    rfl
  have e : (List.range 696).map (fun i => row2 (l.getD i (0, 0))) = l.map row2 := by
    apply List.ext_getElem?
    intro i
    by_cases hi : i < 696
    · have hi2 : i < l.length := by rw [hl]; exact hi
      have hg : l.getD i (0, 0) = l[i] := by rw [List.getD_eq_getElem?_getD, List.getElem?_eq_getElem hi2]; rfl
      rw [List.getElem?_map, List.getElem?_range hi, List.getElem?_map, List.getElem?_eq_getElem hi2]
      simp only [Option.map_some, hg]
    · rw [List.getElem?_eq_none (by simp; omega), List.getElem?_eq_none (by rw [List.length_map, hl]; omega)]
  show DataW.trod _ _ _ _ _ _ ((fuel + 2) + 1) _ _ = _
  unfold DataW.trod
  simp only [u305, c304, c305]
  rw [if_pos hlen, mapM_some _ _ _ helem]
  have e4 := flat_nil (fun i => row2 (l.getD i (0, 0))) (List.range 696)
  rw [Option.map_some, e4, List.map_map]
  have e5 : (fun x : DataW Unit × List MemPlace => x.1) ∘ (fun i => (row2 (l.getD i (0, 0)), ([] : List MemPlace))) = fun i => row2 (l.getD i (0, 0)) := rfl
  rw [e5, e]
theorem pow_reads (w : World) (fuel : Nat) : DataW.trod (fun _ => ()) Tryz.prog w 0 (fun _ => true) false (fuel + 3) 306 powCells.toList = some (Go.Pinned.pow10Tab, []) :=
  pairs_reads Go.Pinned.pow10Rows pow_len (fun i a b h => let f := powOk_at Go.Pinned.pow10Rows 0 i a b powOk_all h; ⟨f.1, f.2.1⟩) w fuel
theorem pow_noiface (u : TypeId) (v : Value) (i : Nat) : powCells[i]? ≠ some (.iface u v) := by
  intro hc
  unfold powCells at hc
  rw [List.getElem?_toArray] at hc
  have hm := List.mem_of_getElem? hc
  obtain ⟨x, _, hx⟩ := List.mem_flatMap.1 hm
  unfold pair2 at hx
  simp at hx
theorem cell_atW {w : World} {g : Nat} {C : Array Value} {t : TypeId} (h : w.heap[g]? = some (.cells C t (0, 0))) (i : Nat) : w.cell? ⟨g, i, none⟩ = C[i]? := by
  unfold World.cell?
  simp only [h]
  rfl
theorem arr_in (C : Array Value) (hno : ∀ (u : TypeId) (v : Value) (i : Nat), C[i]? ≠ some (Value.iface u v)) (hread : ∀ w : World, DataW.trod (fun _ => ()) Tryz.prog w 0 (fun _ => true) false 3 306 C.toList = some (Go.Pinned.pow10Tab, [])) {w : World} (hb : w.heap[11]? = some (.cells C 306 (0, 0))) (hv : w.var? Tryz.prog "internal/strconv.pow10Tab" = some C) : LaidIn Tryz.prog w [("internal/strconv.pow10Tab", Go.Pinned.pow10Tab)] [11] := by
  generalize Go.Pinned.pow10Tab = D at *
  refine LaidIn.one (fuel := 3) (p := []) [11] gPow gPowT hv (hread w) (by rw [List.append_nil]; exact rowP_nodup _ _) ?_ ?_
  · intro b off hm
    rw [List.append_nil] at hm
    obtain ⟨i, hi, e⟩ := MemPlace.mem_row.1 hm
    simp at e
    obtain ⟨rfl, rfl⟩ := e
    refine ⟨⟨_, _, hb⟩, fun u v hc => ?_⟩
    have hc2 := cell_atW hb off
    rw [hc] at hc2
    have hF : False := hno u v off hc2.symm
    cases hF
  · intro x hm
    rw [List.append_nil] at hm
    obtain ⟨i, hi, rfl⟩ := MemPlace.mem_row.1 hm
    exact List.mem_singleton.2 rfl
theorem pow_in {w : World} (hb : w.heap[11]? = some (.cells powCells 306 (0, 0))) (hv : w.var? Tryz.prog "internal/strconv.pow10Tab" = some powCells) : LaidIn Tryz.prog w [("internal/strconv.pow10Tab", Go.Pinned.pow10Tab)] [11] :=
  arr_in powCells pow_noiface (fun w => pow_reads w 0) hb hv
/-- The other tables, cell by cell. -/
def u8s : DataW Unit → Array Value
  | .agg l => (l.flatMap fun | .lit (.int k z) => [Value.int k z] | .agg m => m.flatMap (fun | .lit (.int k z) => [Value.int k z] | _ => []) | _ => []).toArray
  | _ => #[]
def cheatCells : Array Value := (Go.Pinned.cheatRows.flatMap fun x => [Value.int .i64 (x.1 : Int), .string ⟨x.2.toArray⟩]).toArray
def laidB (cs : Array Value) : Obj → Obj
  | .cells _ t frozen => .cells cs t frozen
  | o => o
def sls : DataW Unit → Array Value
  | .slice l _ => (l.flatMap fun | .lit (.int k z) => [Value.int k z] | .lit (.float k z) => [Value.float k z] | _ => []).toArray
  | _ => #[]
/-- The blocks behind the variables. -/
def newBlocks (N : Nat) : Array Obj := #[.cells #[.string ⟨#[118, 97, 108, 117, 101, 32, 111, 117, 116, 32, 111, 102, 32, 114, 97, 110, 103, 101]⟩] 298, .cells #[.string ⟨#[105, 110, 118, 97, 108, 105, 100, 32, 115, 121, 110, 116, 97, 120]⟩] 298, .cells cheatCells 310, .cells (sls Rows.laid_internal_strconv_powtab) 3, .cells (sls Rows.laid_internal_strconv_float64pow10) 23, .cells (sls Rows.laid_internal_strconv_float32pow10) 180, .cells (rgCells .u16 Ut.zsT.r16) 199, .cells #[.slice (some ⟨N + 6, 0, none⟩) 5 5, .slice none 0 0, .int .i64 1] 197]
/-- A world with the tables laid. -/
def laidW (w : World) (N : Nat) : World := { w with heap := ((((((((((((((((w.heap.modify 13 (laidB (u8s Rows.laid_math_bits_deBruijn32tab))).modify 4 (laidB (u8s Rows.laid_math_bits_deBruijn64tab))).modify 14 (laidB (u8s Rows.laid_internal_strconv_float32info))).modify 15 (laidB (u8s Rows.laid_internal_strconv_float64info))).modify 7 (laidB #[.bool true])).modify 17 (laidB #[.slice (some ⟨N + 3, 0, none⟩) (sls Rows.laid_internal_strconv_powtab).size (sls Rows.laid_internal_strconv_powtab).size])).modify 18 (laidB #[.slice (some ⟨N + 4, 0, none⟩) 23 23])).modify 16 (laidB #[.slice (some ⟨N + 5, 0, none⟩) (sls Rows.laid_internal_strconv_float32pow10).size (sls Rows.laid_internal_strconv_float32pow10).size])).modify 10 (laidB (u8s Rows.laid_internal_strconv_uint64pow10))).modify 2 (laidB (u8s Rows.laid_unicode_utf8_acceptRanges))).modify 9 (laidB #[.iface 296 (.pointer (some ⟨N, 0, none⟩))])).modify 8 (laidB #[.iface 296 (.pointer (some ⟨N + 1, 0, none⟩))])).modify 3 (laidB #[.pointer (some ⟨N + 7, 0, none⟩)])).modify 12 (laidB #[.slice (some ⟨N + 2, 0, none⟩) 61 61])).modify 1 (laidB (u8s Go.Pinned.utf8First))).modify 11 (laidB powCells)) }
end Go.Proofs.YtellndmbllmjgaaGreatDoor
/- The world holds the row's tables. -/
set_option linter.unusedVariables false
namespace Go.Proofs.YtellndmbllmjgaaGreatDoor
open Go.RowKit Go.Shelf Go.Lib Fs

theorem piece0 (os : Os) : LaidIn Tryz.prog ((laidW (World.holding Tryz.prog os ⟨newBlocks (World.settled Tryz.prog os).heap.size, #[], []⟩) (World.settled Tryz.prog os).heap.size).forCall (fun _ _ => 0) ⟨#[], #[.string ⟨#[]⟩, .int .u64 0], []⟩).memory (Rows.numReadRow.laid.take 5) [13, 4, 14, 15, 7] :=
  LaidIn.of_run _ 8 (by kernel_rfl) (by kernel_rfl) (by kernel_rfl) (by kernel_rfl)
theorem piece1 (os : Os) : LaidIn Tryz.prog ((laidW (World.holding Tryz.prog os ⟨newBlocks (World.settled Tryz.prog os).heap.size, #[], []⟩) (World.settled Tryz.prog os).heap.size).forCall (fun _ _ => 0) ⟨#[], #[.string ⟨#[]⟩, .int .u64 0], []⟩).memory ((Rows.numReadRow.laid.drop 5).take 3) [17, 18, 16, (World.settled Tryz.prog default).heap.size + 3, (World.settled Tryz.prog default).heap.size + 4, (World.settled Tryz.prog default).heap.size + 5] :=
  LaidIn.of_run _ 8 (by kernel_rfl) (by kernel_rfl) (by kernel_rfl) (by kernel_rfl)
theorem piece2 (os : Os) : LaidIn Tryz.prog ((laidW (World.holding Tryz.prog os ⟨newBlocks (World.settled Tryz.prog os).heap.size, #[], []⟩) (World.settled Tryz.prog os).heap.size).forCall (fun _ _ => 0) ⟨#[], #[.string ⟨#[]⟩, .int .u64 0], []⟩).memory ((Rows.numReadRow.laid.drop 8).take 2) [10, 2] :=
  LaidIn.of_run _ 8 (by kernel_rfl) (by kernel_rfl) (by kernel_rfl) (by kernel_rfl)
theorem piece3 (os : Os) : LaidIn Tryz.prog ((laidW (World.holding Tryz.prog os ⟨newBlocks (World.settled Tryz.prog os).heap.size, #[], []⟩) (World.settled Tryz.prog os).heap.size).forCall (fun _ _ => 0) ⟨#[], #[.string ⟨#[]⟩, .int .u64 0], []⟩).memory ((Rows.numReadRow.laid.drop 10).take 2) [9, 8, (World.settled Tryz.prog default).heap.size, (World.settled Tryz.prog default).heap.size + 1] :=
  LaidIn.of_run _ 8 (by kernel_rfl) (by kernel_rfl) (by kernel_rfl) (by kernel_rfl)
theorem piece4 (os : Os) : LaidIn Tryz.prog ((laidW (World.holding Tryz.prog os ⟨newBlocks (World.settled Tryz.prog os).heap.size, #[], []⟩) (World.settled Tryz.prog os).heap.size).forCall (fun _ _ => 0) ⟨#[], #[.string ⟨#[]⟩, .int .u64 0], []⟩).memory ((Rows.numReadRow.laid.drop 12).take 1) [3, (World.settled Tryz.prog default).heap.size + 7, (World.settled Tryz.prog default).heap.size + 6] :=
  LaidIn.of_run _ 8 (by kernel_rfl) (by kernel_rfl) (by kernel_rfl) (by kernel_rfl)
theorem piece5 (os : Os) : LaidIn Tryz.prog ((laidW (World.holding Tryz.prog os ⟨newBlocks (World.settled Tryz.prog os).heap.size, #[], []⟩) (World.settled Tryz.prog os).heap.size).forCall (fun _ _ => 0) ⟨#[], #[.string ⟨#[]⟩, .int .u64 0], []⟩).memory ((Rows.numReadRow.laid.drop 13).take 1) [12, (World.settled Tryz.prog default).heap.size + 2] :=
  LaidIn.of_run _ 8 (by kernel_rfl) (by kernel_rfl) (by kernel_rfl) (by kernel_rfl)
theorem piece7 (os : Os) : LaidIn Tryz.prog ((laidW (World.holding Tryz.prog os ⟨newBlocks (World.settled Tryz.prog os).heap.size, #[], []⟩) (World.settled Tryz.prog os).heap.size).forCall (fun _ _ => 0) ⟨#[], #[.string ⟨#[]⟩, .int .u64 0], []⟩).memory (Rows.numReadRow.laid.drop 15) [1] :=
  LaidIn.of_run _ 8 (by kernel_rfl) (by kernel_rfl) (by kernel_rfl) (by kernel_rfl)
end Go.Proofs.YtellndmbllmjgaaGreatDoor
/- The table of powers, and all of them. -/
set_option linter.unusedVariables false
namespace Go.Proofs.YtellndmbllmjgaaGreatDoor
open Go.RowKit Go.Shelf Go.Lib Fs

theorem piece6 (os : Os) : LaidIn Tryz.prog ((laidW (World.holding Tryz.prog os ⟨newBlocks (World.settled Tryz.prog os).heap.size, #[], []⟩) (World.settled Tryz.prog os).heap.size).forCall (fun _ _ => 0) ⟨#[], #[.string ⟨#[]⟩, .int .u64 0], []⟩).memory ((Rows.numReadRow.laid.drop 14).take 1) [11] :=
  pow_in (by kernel_rfl) (by kernel_rfl)
theorem laid_met (os : Os) : laidMet Tryz.prog Rows.numReadRow.laid ((laidW (World.holding Tryz.prog os ⟨newBlocks (World.settled Tryz.prog os).heap.size, #[], []⟩) (World.settled Tryz.prog os).heap.size).forCall (fun _ _ => 0) ⟨#[], #[.string ⟨#[]⟩, .int .u64 0], []⟩).memory :=
  ((((((((piece0 os).append (piece1 os) (by kernel_rfl)).append (piece2 os) (by kernel_rfl)).append (piece3 os) (by kernel_rfl)).append (piece4 os) (by kernel_rfl)).append (piece5 os) (by kernel_rfl)).append (piece6 os) (by kernel_rfl)).append (piece7 os) (by kernel_rfl)).met
end Go.Proofs.YtellndmbllmjgaaGreatDoor
/- The world's variables are as their types ask. -/
set_option linter.unusedVariables false
namespace Go.Proofs.YtellndmbllmjgaaGreatDoor
open Go.RowKit Go.Shelf Go.Lib Fs

theorem ct305 : Tryz.prog.cellTypes Tryz.prog.depth 306 = some (List.replicate 1392 22) := by kernel_rfl
theorem cell_u64 (w : World) (z : Nat) (hz : z < 18446744073709551616) : Cell.okRefB Tryz.prog w 22 (.int .u64 (z : Int)) = true := by
  have hw : (Lit.int .u64 (z : Int)).wf = true := by
    simp [Lit.wf, IntKind.min, IntKind.max, IntKind.bits, IntKind.signed]
    omega
  unfold Cell.okRefB
  rw [Tryz.underlying22]
  simp only [Cell.okB, Tryz.underlying22]
  have h1 : IntKind.u64.min = 0 := by decide
  have h2 : IntKind.u64.max = 18446744073709551615 := by decide
  rw [h1, h2]
  simp
  omega
theorem pow_size : powCells.size = 1392 := by
  unfold powCells
  rw [List.size_toArray, pair_len, pow_len]
theorem pow_cell (i : Nat) (hi : i < 1392) : ∃ z : Nat, z < 18446744073709551616 ∧ powCells[i]? = some (.int .u64 (z : Int)) := by
  have h1 : powCells[i]? = some (powCells[i]'(by rw [pow_size]; exact hi)) := Array.getElem?_eq_getElem _
  have h2 : powCells[i]? = (Go.Pinned.pow10Rows.flatMap pair2)[i]? := by unfold powCells; rw [List.getElem?_toArray]
  rw [h2] at h1
  have hm := List.mem_of_getElem? h1
  obtain ⟨x, hx, hx2⟩ := List.mem_flatMap.1 hm
  obtain ⟨j, hj⟩ := List.mem_iff_getElem?.1 hx
  have f := powOk_at Go.Pinned.pow10Rows 0 j x.1 x.2 powOk_all hj
  unfold pair2 at hx2
  rw [h2, h1]
  simp only [List.mem_cons, List.mem_nil_iff, or_false] at hx2
  rcases hx2 with e | e
  · exact ⟨x.1, f.1, by rw [e]⟩
  · exact ⟨x.2, f.2.1, by rw [e]⟩
theorem pow_ok (w : World) : Row.okRefB Tryz.prog w 306 powCells = true := by
  unfold Row.okRefB
  rw [ct305]
  simp only [pow_size, List.length_replicate, Nat.mod_self, beq_self_eq_true, Bool.true_and]
  rw [List.all_eq_true]
  intro i hi
  have hi' := List.mem_range.1 hi
  obtain ⟨z, hz, hc⟩ := pow_cell i hi'
  rw [hc, Nat.mod_eq_of_lt hi', List.getElem?_replicate, if_pos hi']
  exact cell_u64 w z hz
theorem begin11 : (((begin Tryz.prog (fun _ _ => 0) default).world.heap[11]?).bind Obj.row?).map (fun x => (x.1.size, x.2)) = some (1392, 306) := by kernel_rfl
theorem heap11 (os : Os) : ((laidW (World.holding Tryz.prog os ⟨newBlocks (World.settled Tryz.prog os).heap.size, #[], []⟩) (World.settled Tryz.prog os).heap.size).forCall (fun _ _ => 0) ⟨#[], #[.string ⟨#[]⟩, .int .u64 0], []⟩).heap[11]? = some (.cells powCells 306 (0, 0)) := by kernel_rfl
theorem gsize : Tryz.prog.globals.size = 20 := by kernel_rfl
/-- What is asked of one variable. -/
noncomputable def varB (w : World) (g : Nat) : Bool :=
  match ((begin Tryz.prog (fun _ _ => 0) default).world.heap[g]?).bind Obj.row? with
  | none => true
  | some (zero, t) =>
    match w.heap[g]? with
    | some (.cells cs t' frozen) => decide (t' = t) && decide (frozen = (0, 0)) && cs.size == zero.size && (!Tryz.prog.buildable t || Row.okRefB Tryz.prog w t cs)
    | _ => false
theorem var11 (os : Os) : varB ((laidW (World.holding Tryz.prog os ⟨newBlocks (World.settled Tryz.prog os).heap.size, #[], []⟩) (World.settled Tryz.prog os).heap.size).forCall (fun _ _ => 0) ⟨#[], #[.string ⟨#[]⟩, .int .u64 0], []⟩) 11 = true := by
  have h1 := begin11
  have h2 := heap11 os
  unfold varB
  generalize ((laidW (World.holding Tryz.prog os ⟨newBlocks (World.settled Tryz.prog os).heap.size, #[], []⟩) (World.settled Tryz.prog os).heap.size).forCall (fun _ _ => 0) ⟨#[], #[.string ⟨#[]⟩, .int .u64 0], []⟩) = W at *
  obtain ⟨⟨zero, t⟩, h3, h4⟩ := Option.map_eq_some_iff.1 h1
  simp only [Prod.mk.injEq] at h4
  obtain ⟨h5, rfl⟩ := h4
  rw [h3, h2]
  simp only [pow_ok W, pow_size, h5, Bool.or_true, decide_true, beq_self_eq_true, Bool.and_self]
theorem varsL (os : Os) : ((List.range 11).all fun g => varB ((laidW (World.holding Tryz.prog os ⟨newBlocks (World.settled Tryz.prog os).heap.size, #[], []⟩) (World.settled Tryz.prog os).heap.size).forCall (fun _ _ => 0) ⟨#[], #[.string ⟨#[]⟩, .int .u64 0], []⟩) g) = true := by kernel_rfl
theorem varsR (os : Os) : ((List.range 8).all fun g => varB ((laidW (World.holding Tryz.prog os ⟨newBlocks (World.settled Tryz.prog os).heap.size, #[], []⟩) (World.settled Tryz.prog os).heap.size).forCall (fun _ _ => 0) ⟨#[], #[.string ⟨#[]⟩, .int .u64 0], []⟩) (g + 12)) = true := by kernel_rfl
theorem vars (os : Os) : ((laidW (World.holding Tryz.prog os ⟨newBlocks (World.settled Tryz.prog os).heap.size, #[], []⟩) (World.settled Tryz.prog os).heap.size).forCall (fun _ _ => 0) ⟨#[], #[.string ⟨#[]⟩, .int .u64 0], []⟩).variablesRefB Tryz.prog = true := by
  have h1 := varsL os
  have h2 := varsR os
  have h3 := var11 os
  generalize ((laidW (World.holding Tryz.prog os ⟨newBlocks (World.settled Tryz.prog os).heap.size, #[], []⟩) (World.settled Tryz.prog os).heap.size).forCall (fun _ _ => 0) ⟨#[], #[.string ⟨#[]⟩, .int .u64 0], []⟩) = W at *
  have all : ∀ g, g < 20 → varB W g = true := by
    intro g hg
    rcases Nat.lt_trichotomy g 11 with h | h | h
    · exact List.all_eq_true.1 h1 g (List.mem_range.2 h)
    · rw [h]; exact h3
    · have := List.all_eq_true.1 h2 (g - 12) (List.mem_range.2 (by omega))
      rw [show g - 12 + 12 = g by omega] at this
      exact this
  unfold World.variablesRefB
  rw [gsize, List.all_eq_true]
  intro g hg
  exact all g (List.mem_range.1 hg)
end Go.Proofs.YtellndmbllmjgaaGreatDoor
/- NumRead: what the walks give, for the row. -/
set_option linter.unusedVariables false
namespace Go.Proofs.YtellndmbllmjgaaGreatDoor.numRead
open Go.ChangeShapes Go.WideShapes Go.ChangeAt Go.RowKit Go.Shelf Go.Lib

theorem own : ownKnob Tryz.prog.godebug = none := by kernel_rfl
theorem laidOut : laidOutB Tryz.prog = true := by kernel_rfl

/-- What the row's list and the world's shape give. -/
theorem tables {W : World} (h : laidMetH Tryz.prog Rows.numReadRow.laid W) (hs : W.ShapedOpen Tryz.prog) : RdLaid W := by
  rw [MakeChecks.laidMetH_plain _ _ _ (by kernel_rfl)] at h
  have h1 : VarReads Tryz.prog W _ Rows.laid_internal_strconv_uint64pow10 := laidMet.reads h (List.mem_cons_of_mem _ (List.mem_cons_of_mem _ (List.mem_cons_of_mem _ (List.mem_cons_of_mem _ (List.mem_cons_of_mem _ (List.mem_cons_of_mem _ (List.mem_cons_of_mem _ (List.mem_cons_of_mem _ (List.mem_cons_self ..)))))))))
  have h2 : VarReads Tryz.prog W _ Go.Pinned.pow10Tab := laidMet.reads h (List.mem_cons_of_mem _ (List.mem_cons_of_mem _ (List.mem_cons_of_mem _ (List.mem_cons_of_mem _ (List.mem_cons_of_mem _ (List.mem_cons_of_mem _ (List.mem_cons_of_mem _ (List.mem_cons_of_mem _ (List.mem_cons_of_mem _ (List.mem_cons_of_mem _ (List.mem_cons_of_mem _ (List.mem_cons_of_mem _ (List.mem_cons_of_mem _ (List.mem_cons_of_mem _ (List.mem_cons_self ..)))))))))))))))
  have h3 : VarReads Tryz.prog W _ Rows.laid_internal_strconv_float64info := laidMet.reads h (List.mem_cons_of_mem _ (List.mem_cons_of_mem _ (List.mem_cons_of_mem _ (List.mem_cons_self ..))))
  have h4 : VarReads Tryz.prog W _ Rows.laid_internal_strconv_optimize := laidMet.reads h (List.mem_cons_of_mem _ (List.mem_cons_of_mem _ (List.mem_cons_of_mem _ (List.mem_cons_of_mem _ (List.mem_cons_self ..)))))
  have h5 : VarReads Tryz.prog W _ Rows.laid_internal_strconv_float64pow10 := laidMet.reads h (List.mem_cons_of_mem _ (List.mem_cons_of_mem _ (List.mem_cons_of_mem _ (List.mem_cons_of_mem _ (List.mem_cons_of_mem _ (List.mem_cons_of_mem _ (List.mem_cons_self ..)))))))
  have h6 : VarReads Tryz.prog W _ Rows.laid_unicode_utf8_acceptRanges := laidMet.reads h (List.mem_cons_of_mem _ (List.mem_cons_of_mem _ (List.mem_cons_of_mem _ (List.mem_cons_of_mem _ (List.mem_cons_of_mem _ (List.mem_cons_of_mem _ (List.mem_cons_of_mem _ (List.mem_cons_of_mem _ (List.mem_cons_of_mem _ (List.mem_cons_self ..))))))))))
  have h7 : VarReads Tryz.prog W _ Rows.laid_strconv_ErrRange := laidMet.reads h (List.mem_cons_of_mem _ (List.mem_cons_of_mem _ (List.mem_cons_of_mem _ (List.mem_cons_of_mem _ (List.mem_cons_of_mem _ (List.mem_cons_of_mem _ (List.mem_cons_of_mem _ (List.mem_cons_of_mem _ (List.mem_cons_of_mem _ (List.mem_cons_of_mem _ (List.mem_cons_self ..)))))))))))
  have h8 : VarReads Tryz.prog W _ Rows.laid_unicode_Zs := laidMet.reads h (List.mem_cons_of_mem _ (List.mem_cons_of_mem _ (List.mem_cons_of_mem _ (List.mem_cons_of_mem _ (List.mem_cons_of_mem _ (List.mem_cons_of_mem _ (List.mem_cons_of_mem _ (List.mem_cons_of_mem _ (List.mem_cons_of_mem _ (List.mem_cons_of_mem _ (List.mem_cons_of_mem _ (List.mem_cons_of_mem _ (List.mem_cons_self ..)))))))))))))
  have h9 : VarReads Tryz.prog W _ Go.Pinned.utf8First := laidMet.reads h (List.mem_cons_of_mem _ (List.mem_cons_of_mem _ (List.mem_cons_of_mem _ (List.mem_cons_of_mem _ (List.mem_cons_of_mem _ (List.mem_cons_of_mem _ (List.mem_cons_of_mem _ (List.mem_cons_of_mem _ (List.mem_cons_of_mem _ (List.mem_cons_of_mem _ (List.mem_cons_of_mem _ (List.mem_cons_of_mem _ (List.mem_cons_of_mem _ (List.mem_cons_of_mem _ (List.mem_cons_of_mem _ (List.mem_cons_self ..))))))))))))))))
  have h10 : VarReads Tryz.prog W _ Rows.laid_internal_strconv_powtab := laidMet.reads h (List.mem_cons_of_mem _ (List.mem_cons_of_mem _ (List.mem_cons_of_mem _ (List.mem_cons_of_mem _ (List.mem_cons_of_mem _ (List.mem_cons_self ..))))))
  have h11 : VarReads Tryz.prog W _ Go.Pinned.leftcheats := laidMet.reads h (List.mem_cons_of_mem _ (List.mem_cons_of_mem _ (List.mem_cons_of_mem _ (List.mem_cons_of_mem _ (List.mem_cons_of_mem _ (List.mem_cons_of_mem _ (List.mem_cons_of_mem _ (List.mem_cons_of_mem _ (List.mem_cons_of_mem _ (List.mem_cons_of_mem _ (List.mem_cons_of_mem _ (List.mem_cons_of_mem _ (List.mem_cons_of_mem _ (List.mem_cons_self ..))))))))))))))
  have h12 : VarReads Tryz.prog W _ Rows.laid_math_bits_deBruijn64tab := laidMet.reads h (List.mem_cons_of_mem _ (List.mem_cons_self ..))
  have i2 := info2_of_reads h3
  exact ⟨⟨⟨powTab_of_reads h2, p10_of_reads h1, most_of_shape hs⟩, ⟨info_of_reads h3, p10s_of_reads h5⟩, opt_of_reads h4, err_of_reads h7⟩, ⟨cheats_of_reads h11, pwt_of_reads h10, info_of_reads h3, i2.1, i2.2⟩, u8_of_reads h9 h6, zs_of_reads h8, tab_of_reads h12⟩

set_option maxRecDepth 100000 in
/-- What the walks give, for every argument and every world that holds the tables. -/
theorem contract (H : Type) (enc : TypeId × Value → H) (W : World) (base : Nat) (args : Array Value) (ds gs : List (DataW H)) (before : List MemPlace)
    (hval0 : ∀ (j : Nat) t v, Tryz.f4.params[j]? = some t → args[j]? = some v → Value.okWide Tryz.prog W .any base t v)
    (hW : DataW.Whole enc Tryz.prog Tryz.f4.params.toList Rows.numReadSpec.vars false W args.toList ds gs before) (hL : laidMetH Tryz.prog Rows.numReadRow.laid W) (hS : W.ShapedOpen Tryz.prog) :
    Calls Tryz.prog 4 args W fun e W' => ∃ v, e = .returned v ∧ Rows.numReadSpec.post enc Tryz.prog Tryz.f4 false true false false W args v W' := by
  have hT := tables hL hS
  have hval : ∀ (j : Nat) t v, Tryz.f4.params[j]? = some t → args[j]? = some v → Value.okWide Tryz.prog W .any base t v := hval0
  have hW' := hW
  obtain ⟨p, q, hA0, hV, rfl, hfz, hnd⟩ := hW
  have hA : DataW.TrodAll enc Tryz.prog W 0 (fun _ => true) true Tryz.f4.params.toList args.toList ds p := hA0
  rw [Tryz.params4] at hA hval
  obtain ⟨v0, vs0, d0, ds0, p0, q0, hargs, rfl, rfl, h0, r0⟩ := trodAll_cons hA
  obtain ⟨v1, vs1, d1, ds1, p1, q1, hargs1, rfl, rfl, h1, r1⟩ := trodAll_cons r0
  obtain ⟨rfl, rfl, rfl⟩ := trodAll_nil r1
  obtain rfl : args = #[v0, v1] := by cases args; simp_all
  obtain ⟨rfl, rfl⟩ := trodVars_none hV
  have k0 := h0
  have k1 := h1
  have lt0 : ∀ x ∈ p0, x.block < W.heap.size := by obtain ⟨m, hm⟩ := k0; exact DataW.trod_lt m _ _ _ hm
  have lt1 : ∀ x ∈ p1, x.block < W.heap.size := by obtain ⟨m, hm⟩ := k1; exact DataW.trod_lt m _ _ _ hm
  obtain ⟨s, rfl, rfl, rfl, hsz⟩ := Go.ChangeMaps.open_string Tryz.underlying9 (hval 0 9 v0 rfl rfl) h0
  obtain ⟨n, rfl, rfl, rfl, hwf⟩ := open_int Tryz.underlying22 (hval 1 22 v1 rfl rfl) h1
  have walk : Calls Tryz.prog 4 #[.string s, .int .u64 n] W fun e w' => e = .returned (.bool true) ∧ Below W.heap.size W w' := by
    have hb : 0 ≤ n ∧ n < 18446744073709551616 := by
      simp [Lit.wf, IntKind.min, IntKind.max, IntKind.bits, IntKind.signed] at hwf
      omega
    obtain ⟨B, rfl⟩ : ∃ B : Nat, n = (B : Int) := ⟨n.toNat, by omega⟩
    exact numRead_any s B (by omega) (by unfold maxLen at hsz; omega) W hT
  clear hA0 hval0
  refine walk.mono fun e W' ⟨he, bel⟩ => ?_
  subst he
  exact ⟨_, rfl, _, _, _, [], _, [], hW', trodAll_mk1 (shut_bool Tryz.underlying4 _), (trodAll_cons_mk (Below.trod laidOut (by kernel_rfl) (of_decide_eq_true (by kernel_rfl)) k0 bel lt0) (trodAll_cons_mk (Below.trod laidOut (by kernel_rfl) (of_decide_eq_true (by kernel_rfl)) k1 bel lt1) trodAll_mk0)), rfl, bel.frame _, fun h => by cases h⟩
theorem reads (os : Os) {H : Type} (enc : TypeId × Value → H) : ∃ places, DataW.whole enc Tryz.prog ((laidW (World.holding Tryz.prog os ⟨newBlocks (World.settled Tryz.prog os).heap.size, #[], []⟩) (World.settled Tryz.prog os).heap.size).forCall (fun _ _ => 0) ⟨#[], #[.string ⟨#[]⟩, .int .u64 0], []⟩).memory Tryz.f4.params.toList Rows.numReadSpec.vars false #[Value.string ⟨#[]⟩, .int .u64 0].toList 8 = some ([.lit (.string []), .lit (.int .u64 0)], [], places) :=
  ⟨[], by kernel_rfl⟩

set_option maxRecDepth 100000 in
theorem lifted (os : Os) (started : os.Started) (H : Type) (enc : TypeId × Value → H) (F : Stop.Interp) :
    ReturnsInHanded {} Tryz.checked os 4 .any ((OpenSpec.ofChange Rows.numReadSpec).preRow enc Tryz.prog Tryz.f4 Rows.numReadRow.domain false Rows.numReadRow.laid) (((OpenSpec.ofChange Rows.numReadSpec).at F).post enc Tryz.prog Tryz.f4 false true false false) := by
  obtain ⟨places, hx⟩ := reads os enc
  refine returnsInHanded_of_row (C := Tryz.checked) (s := OpenSpec.ofChange Rows.numReadSpec) own started (by kernel_rfl) Tryz.func4
    (witness_row_atRef (enc := enc) (C := Tryz.checked) false (laidW (World.holding Tryz.prog os ⟨newBlocks (World.settled Tryz.prog os).heap.size, #[], []⟩) (World.settled Tryz.prog os).heap.size) #[.string ⟨#[]⟩, .int .u64 0] rfl (vars os) (by kernel_rfl) (by kernel_rfl)
      (OpenSpec.preRow_of_cond 8 hx (by kernel_rfl) (fun k hk => by cases hk) (by kernel_rfl) (laid_met os))) ?_
  intro W base args ds gs before hval hW _ _ _ hL hS _
  exact contract H enc W base args ds gs before hval hW hL hS

end Go.Proofs.YtellndmbllmjgaaGreatDoor.numRead
/- NumRead's row: its closed facts. -/
namespace Go.Proofs.YtellndmbllmjgaaGreatDoor.numRead

theorem closed : joinedFacts Tryz.pinned.checked.prog 4 Tryz.f4 (OpenSpec.ofChange Rows.numReadSpec).bare Rows.numReadRow = true := by kernel_rfl
end Go.Proofs.YtellndmbllmjgaaGreatDoor.numRead
