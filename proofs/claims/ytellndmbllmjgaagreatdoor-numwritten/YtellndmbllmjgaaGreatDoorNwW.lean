/- A world that holds the row's tables. -/
import Derived.Test.YtellndmbllmjgaaGreatDoorNwT
import Derived.Lib.LaidIn
import Derived.Lib.LaidCaseMet
set_option linter.unusedVariables false
namespace Go.Proofs.YtellndmbllmjgaaGreatDoor
open Go.RowKit Go.Shelf Go.Lib Fs

def pair2 (x : Nat × Nat) : List Value := [.int .u64 (x.1 : Int), .int .u64 (x.2 : Int)]
def powCells : Array Value := (Go.Pinned.pow10Rows.flatMap pair2).toArray
theorem pair_drop : ∀ (l : List (Nat × Nat)) (i : Nat) (x : Nat × Nat), l[i]? = some x → ((l.flatMap pair2).drop (i * 2)).take 2 = pair2 x
  | [], i, x, h => by simp at h
  | y :: t, 0, x, h => by
    simp at h
    subst h
    simp [pair2]
  | y :: t, i + 1, x, h => by
    simp only [List.getElem?_cons_succ] at h
    rw [List.flatMap_cons, show (i + 1) * 2 = 2 + i * 2 by omega, ← List.drop_drop]
    have : (pair2 y ++ t.flatMap pair2).drop 2 = t.flatMap pair2 := rfl
    rw [this]
    exact pair_drop t i x h
theorem pair_len : ∀ (l : List (Nat × Nat)), (l.flatMap pair2).length = 2 * l.length
  | [] => rfl
  | y :: t => by
    rw [List.flatMap_cons, List.length_append, pair_len t, List.length_cons]
    simp [pair2]
    omega
theorem c305 : Tryz.prog.cellsOf 306 = 1392 := by kernel_rfl
theorem pair_reads (w : World) (a b : Nat) (ha : a < 18446744073709551616) (hb : b < 18446744073709551616) (fuel : Nat) :
    DataW.trod (fun _ => ()) Tryz.prog w 0 (fun _ => true) false (fuel + 2) 305 (pair2 (a, b)) = some (.agg [.lit (.int .u64 (a : Int)), .lit (.int .u64 (b : Int))], []) := by
  obtain ⟨fs, hu, hs, h0, h1⟩ := u304
  obtain ⟨f0, f1, hfs⟩ : ∃ f0 f1, fs.toList = [f0, f1] := by
    have hl : fs.toList.length = 2 := by simpa using hs
    match hm : fs.toList, hl with
    | [f0, f1], _ => exact ⟨f0, f1, rfl⟩
  have g0 : f0.type = 22 ∧ f0.offset = 0 := by
    rw [← Array.getElem?_toList, hfs] at h0
    simpa using h0
  have g1 : f1.type = 22 ∧ f1.offset = 1 := by
    rw [← Array.getElem?_toList, hfs] at h1
    simpa using h1
  have wa : (Lit.int .u64 (a : Int)).wf = true := by
    simp [Lit.wf, IntKind.min, IntKind.max, IntKind.bits, IntKind.signed]
    omega
  have wb : (Lit.int .u64 (b : Int)).wf = true := by
    simp [Lit.wf, IntKind.min, IntKind.max, IntKind.bits, IntKind.signed]
    omega
  simp [DataW.trod, hu, hfs, g0.1, g0.2, g1.1, g1.2, c304, c22, Tryz.underlying22, pair2, wa, wb]
theorem flat_nil (f : Nat → DataW Unit) : ∀ L : List Nat, (L.map fun i => (f i, ([] : List MemPlace))).flatMap (fun x => x.2) = []
  | [] => rfl
  | a :: L => by rw [List.map_cons, List.flatMap_cons, flat_nil f L]; rfl
def row2 (x : Nat × Nat) : DataW Unit := .agg [.lit (.int .u64 (x.1 : Int)), .lit (.int .u64 (x.2 : Int))]
theorem pairs_reads (l : List (Nat × Nat)) (hl : l.length = 696) (hok : ∀ (i a b : Nat), l[i]? = some (a, b) → a < 18446744073709551616 ∧ b < 18446744073709551616) (w : World) (fuel : Nat) :
    DataW.trod (fun _ => ()) Tryz.prog w 0 (fun _ => true) false (fuel + 3) 306 (l.flatMap pair2) = some (.agg (l.map row2), []) := by
  have hlen : (l.flatMap pair2).length = 1392 := by rw [pair_len, hl]
  have helem : ∀ i ∈ List.range 696, DataW.trod (fun _ => ()) Tryz.prog w 0 (fun _ => true) false (fuel + 2) 305 (((l.flatMap pair2).drop (i * 2)).take 2) = some ((fun i => (row2 (l.getD i (0, 0)), ([] : List MemPlace))) i) := by
    intro i hi
    have hi' := List.mem_range.1 hi
    obtain ⟨⟨a, b⟩, hab⟩ : ∃ x, l[i]? = some x := ⟨_, List.getElem?_eq_getElem (by rw [hl]; exact hi')⟩
    have f := hok i a b hab
    have hg : l.getD i (0, 0) = (a, b) := by rw [List.getD_eq_getElem?_getD, hab]; rfl
    rw [pair_drop _ i _ hab, pair_reads w a b f.1 f.2 fuel]
    simp only [hg]
    rfl
  have e : (List.range 696).map (fun i => row2 (l.getD i (0, 0))) = l.map row2 := by
    apply List.ext_getElem?
    intro i
    by_cases hi : i < 696
    · have hi2 : i < l.length := by rw [hl]; exact hi
      have hg : l.getD i (0, 0) = l[i] := by rw [List.getD_eq_getElem?_getD, List.getElem?_eq_getElem hi2]; rfl
      rw [List.getElem?_map, List.getElem?_range hi, List.getElem?_map, List.getElem?_eq_getElem hi2]
      simp only [Option.map_some, hg]
    · rw [List.getElem?_eq_none (by simp; omega), List.getElem?_eq_none (by rw [List.length_map, hl]; omega)]
  show DataW.trod _ _ _ _ _ _ ((fuel + 2) + 1) _ _ = _
  unfold DataW.trod
  simp only [u305, c304, c305]
  rw [if_pos hlen, mapM_some _ _ _ helem]
  have e4 := flat_nil (fun i => row2 (l.getD i (0, 0))) (List.range 696)
  rw [Option.map_some, e4, List.map_map]
  have e5 : (fun x : DataW Unit × List MemPlace => x.1) ∘ (fun i => (row2 (l.getD i (0, 0)), ([] : List MemPlace))) = fun i => row2 (l.getD i (0, 0)) := rfl
  rw [e5, e]
theorem pow_reads (w : World) (fuel : Nat) : DataW.trod (fun _ => ()) Tryz.prog w 0 (fun _ => true) false (fuel + 3) 306 powCells.toList = some (Go.Pinned.pow10Tab, []) :=
  pairs_reads Go.Pinned.pow10Rows pow_len (fun i a b h => let f := powOk_at Go.Pinned.pow10Rows 0 i a b powOk_all h; ⟨f.1, f.2.1⟩) w fuel
theorem pow_noiface (u : TypeId) (v : Value) (i : Nat) : powCells[i]? ≠ some (.iface u v) := by
  intro hc
  unfold powCells at hc
  rw [List.getElem?_toArray] at hc
  have hm := List.mem_of_getElem? hc
  obtain ⟨x, _, hx⟩ := List.mem_flatMap.1 hm
  unfold pair2 at hx
  simp at hx
theorem cell_at {w : World} {g : Nat} {C : Array Value} {t : TypeId} (h : w.heap[g]? = some (.cells C t (0, 0))) (i : Nat) : w.cell? ⟨g, i, none⟩ = C[i]? := by
  unfold World.cell?
  simp only [h]
  rfl
theorem arr_in (C : Array Value) (hno : ∀ (u : TypeId) (v : Value) (i : Nat), C[i]? ≠ some (Value.iface u v)) (hread : ∀ w : World, DataW.trod (fun _ => ()) Tryz.prog w 0 (fun _ => true) false 3 306 C.toList = some (Go.Pinned.pow10Tab, [])) {w : World} (hb : w.heap[11]? = some (.cells C 306 (0, 0))) (hv : w.var? Tryz.prog "internal/strconv.pow10Tab" = some C) : LaidIn Tryz.prog w [("internal/strconv.pow10Tab", Go.Pinned.pow10Tab)] [11] := by
  generalize Go.Pinned.pow10Tab = D at *
  refine LaidIn.one (fuel := 3) (p := []) [11] gPow gPowT hv (hread w) (by rw [List.append_nil]; exact rowP_nodup _ _) ?_ ?_
  · intro b off hm
    rw [List.append_nil] at hm
    obtain ⟨i, hi, e⟩ := MemPlace.mem_row.1 hm
    simp at e
    obtain ⟨rfl, rfl⟩ := e
    refine ⟨⟨_, _, hb⟩, fun u v hc => ?_⟩
    have hc2 := cell_at hb off
    rw [hc] at hc2
    have hF : False := hno u v off hc2.symm
    cases hF
  · intro x hm
    rw [List.append_nil] at hm
    obtain ⟨i, hi, rfl⟩ := MemPlace.mem_row.1 hm
    exact List.mem_singleton.2 rfl
theorem pow_in {w : World} (hb : w.heap[11]? = some (.cells powCells 306 (0, 0))) (hv : w.var? Tryz.prog "internal/strconv.pow10Tab" = some powCells) : LaidIn Tryz.prog w [("internal/strconv.pow10Tab", Go.Pinned.pow10Tab)] [11] :=
  arr_in powCells pow_noiface (fun w => pow_reads w 0) hb hv
/-- The other tables, cell by cell. -/
def u8s : DataW Unit → Array Value
  | .agg l => (l.flatMap fun | .lit (.int k z) => [Value.int k z] | .agg m => m.flatMap (fun | .lit (.int k z) => [Value.int k z] | _ => []) | _ => []).toArray
  | _ => #[]
def cheatCells : Array Value := (Go.Pinned.cheatRows.flatMap fun x => [Value.int .i64 (x.1 : Int), .string ⟨x.2.toArray⟩]).toArray
def laidB (cs : Array Value) : Obj → Obj
  | .cells _ t frozen => .cells cs t frozen
  | o => o
def newBlocks : Array Obj := #[.cells #[.string ⟨#[118, 97, 108, 117, 101, 32, 111, 117, 116, 32, 111, 102, 32, 114, 97, 110, 103, 101]⟩] 298, .cells #[.string ⟨#[105, 110, 118, 97, 108, 105, 100, 32, 115, 121, 110, 116, 97, 120]⟩] 298, .cells cheatCells 310]
/-- A world with the tables laid. -/
def laidW (w : World) (N : Nat) : World := { w with heap := ((((((((((w.heap.modify 13 (laidB (u8s Rows.laid_math_bits_deBruijn32tab))).modify 4 (laidB (u8s Rows.laid_math_bits_deBruijn64tab))).modify 7 (laidB #[.bool true])).modify 10 (laidB (u8s Rows.laid_internal_strconv_uint64pow10))).modify 2 (laidB (u8s Rows.laid_unicode_utf8_acceptRanges))).modify 9 (laidB #[.iface 296 (.pointer (some ⟨N, 0, none⟩))])).modify 8 (laidB #[.iface 296 (.pointer (some ⟨N + 1, 0, none⟩))])).modify 12 (laidB #[.slice (some ⟨N + 2, 0, none⟩) 61 61])).modify 1 (laidB (u8s Go.Pinned.utf8First))).modify 11 (laidB powCells)) }
end Go.Proofs.YtellndmbllmjgaaGreatDoor
