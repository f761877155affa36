/- What the row's list gives: the tables of strconv. -/
import Derived.Test.YtellndmbllmjgaaGreatDoorNt6
import Derived.Test.YtellndmbllmjgaaGreatDoorRows
import Derived.Lib.LaidU8
import Derived.Shelf.Vars
import GoSem.PinnedTables
set_option linter.unusedVariables false
namespace Go.Proofs.YtellndmbllmjgaaGreatDoor
open Go.RowKit Go.Shelf Go.Lib Fs

theorem gPow : Tryz.prog.globalNamed "internal/strconv.pow10Tab" = some 11 := by kernel_rfl
theorem gPowT : (Tryz.prog.globals[11]?).map (·.type) = some 306 := by kernel_rfl
theorem u305 : Tryz.prog.underlying 306 = some (.array 696 305) := by kernel_rfl
def fieldsOf : Option TypeDesc → Nat × List (TypeId × Nat)
  | some (.struct fs) => (1, fs.toList.map fun f => (f.type, f.offset))
  | _ => (0, [])
theorem f304 : fieldsOf (Tryz.prog.underlying 305) = (1, [(22, 0), (22, 1)]) := by kernel_rfl
theorem u304 : ∃ fs : Array Field, Tryz.prog.underlying 305 = some (.struct fs) ∧ fs.size = 2 ∧ (fs[0]?).map (fun f => (f.type, f.offset)) = some (22, 0) ∧ (fs[1]?).map (fun f => (f.type, f.offset)) = some (22, 1) := by
  have h := f304
  generalize Tryz.prog.underlying 305 = u at h
  unfold fieldsOf at h
  split at h
  · rename_i fs
    simp only [Prod.mk.injEq, true_and] at h
    have hl := congrArg List.length h
    have h0 := congrArg (·[0]?) h
    have h1 := congrArg (·[1]?) h
    simp at hl h0 h1
    refine ⟨fs, rfl, hl, ?_, ?_⟩
    · obtain ⟨x, h2, h3⟩ := h0
      rw [h2]; simp [h3]
    · obtain ⟨x, h2, h3⟩ := h1
      rw [h2]; simp [h3]
  · simp at h
theorem c304 : Tryz.prog.cellsOf 305 = 2 := by kernel_rfl
theorem c22 : Tryz.prog.cellsOf 22 = 1 := by kernel_rfl
theorem gP10 : Tryz.prog.globalNamed "internal/strconv.uint64pow10" = some 10 := by kernel_rfl
theorem gP10T : (Tryz.prog.globals[10]?).map (·.type) = some 290 := by kernel_rfl
theorem u289 : Tryz.prog.underlying 290 = some (.array 20 22) := by kernel_rfl
theorem c289 : Tryz.prog.cellsOf 290 = 20 := by kernel_rfl
/-- The table's rows are the powers of ten, as the walk takes them. -/
def powOk : Nat → List (Nat × Nat) → Bool
  | _, [] => true
  | i, (hi, lo) :: l => decide (hi < 18446744073709551616) && decide (lo < 18446744073709551616) && (pmOf i + lo == hi * 18446744073709551616) && powOk (i + 1) l
theorem powOk_at : ∀ (l : List (Nat × Nat)) (i j hi lo : Nat), powOk i l = true → l[j]? = some (hi, lo) → hi < 18446744073709551616 ∧ lo < 18446744073709551616 ∧ pmOf (i + j) + lo = hi * 18446744073709551616
  | [], _, j, _, _, _, h => by simp at h
  | (a, b) :: l, i, j, hi, lo, hc, h => by
    simp only [powOk, Bool.and_eq_true, decide_eq_true_eq, beq_iff_eq] at hc
    cases j with
    | zero =>
      simp only [List.getElem?_cons_zero, Option.some.injEq, Prod.mk.injEq] at h
      obtain ⟨rfl, rfl⟩ := h
      exact ⟨hc.1.1.1, hc.1.1.2, hc.1.2⟩
    | succ j =>
      simp only [List.getElem?_cons_succ] at h
      have := powOk_at l (i + 1) j hi lo hc.2 h
      rw [show i + (j + 1) = i + 1 + j by omega]
      exact this
theorem powOk_all : powOk 0 Go.Pinned.pow10Rows = true := by decide +kernel
theorem pow_len : Go.Pinned.pow10Rows.length = 696 := by decide +kernel
theorem powTab_of_reads {w : World} (h : VarReads Tryz.prog w "internal/strconv.pow10Tab" Go.Pinned.pow10Tab) : PowTab w := by
  intro i hi
  obtain ⟨g, t, cs, fuel, p, hg, hty, hvar, hd⟩ := h
  obtain rfl := Option.some.inj (gPow.symm.trans hg)
  obtain rfl := Option.some.inj (gPowT.symm.trans hty)
  obtain ⟨fuel', d, q, hdi, he⟩ := array_elem u305 hd i hi
  obtain ⟨⟨a, b⟩, hab⟩ : ∃ x, Go.Pinned.pow10Rows[i]? = some x := ⟨_, List.getElem?_eq_getElem (by rw [pow_len]; exact hi)⟩
  rw [List.getElem?_map, hab] at hdi
  simp only [Option.map_some, Option.some.injEq] at hdi
  subst hdi
  rw [c304] at he
  obtain ⟨fs, hu, hs, hf0, hf1⟩ := u304
  have hcs := ints_of_struct (zs := [(a : Int), (b : Int)]) hu (fun j f hj => by
    match j, hj with
    | 0, hj => rw [hj] at hf0; simp at hf0; exact ⟨by rw [hf0.1]; exact Tryz.underlying22, hf0.2, by rw [hf0.1]; exact c22⟩
    | 1, hj => rw [hj] at hf1; simp at hf1; exact ⟨by rw [hf1.1]; exact Tryz.underlying22, hf1.2, by rw [hf1.1]; exact c22⟩
    | j + 2, hj =>
      have : j + 2 < fs.size := by
        rcases Nat.lt_or_ge (j + 2) fs.size with h | h
        · exact h
        · rw [Array.getElem?_eq_none h] at hj; cases hj
      omega) (by rw [c304, hs]) he
  have e0 := congrArg (·[0]?) hcs
  have e1 := congrArg (·[1]?) hcs
  have v0 := World.var?_cell hg hvar (i * 2)
  have v1 := World.var?_cell hg hvar (i * 2 + 1)
  simp only [List.getElem?_take, List.getElem?_drop] at e0 e1
  have f := powOk_at Go.Pinned.pow10Rows 0 i a b powOk_all hab
  rw [Nat.zero_add] at f
  refine ⟨a, b, ⟨?_, ?_⟩, f⟩
  · rw [v0, ← Array.getElem?_toList]
    simpa using e0
  · rw [v1, ← Array.getElem?_toList]
    simpa using e1
theorem p10_of_reads {w : World} (h : VarReads Tryz.prog w "internal/strconv.uint64pow10" Rows.laid_internal_strconv_uint64pow10) : TabIs Tryz.prog w "internal/strconv.uint64pow10" .u64 Lib.pow10Tab := by
  have e : (Rows.laid_internal_strconv_uint64pow10 : DataW Unit) = tabData .u64 Lib.pow10Tab := by kernel_rfl
  rw [e] at h
  obtain ⟨g, t, cs, fuel, p, hg, hty, hvar, hd⟩ := h
  obtain rfl := Option.some.inj (gP10.symm.trans hg)
  obtain rfl := Option.some.inj (gP10T.symm.trans hty)
  unfold TabIs
  rw [hvar, ← cells_of_tab u289 Tryz.underlying22 c22 c289 hd]
theorem most_of_shape {w : World} (h : w.ShapedOpen Tryz.prog) : ∃ m, w.cell? ⟨6, 0, none⟩ = some (.int .i64 m) :=
  cell_of_shapedOpen_int (P := Tryz.prog) (g := 6) (t := 3) (zero := #[.int .i64 0]) h (of_decide_eq_true (by kernel_rfl)) (by kernel_rfl) rfl (by kernel_rfl) (by kernel_rfl) Tryz.underlying3
end Go.Proofs.YtellndmbllmjgaaGreatDoor
