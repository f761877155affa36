/- A world that holds the row's tables. -/
import Derived.Test.YtmicdbplkfdfnaaGreatDoorRows
import Derived.Lib.LaidIn
import Derived.Lib.LaidU8
import Derived.Lib.LaidCaseMet
import Derived.LaidHandle
import Derived.LaidLaws
import Derived.DataWitness
set_option linter.unusedVariables false
namespace Go.Proofs.YtmicdbplkfdfnaaGreatDoor.heapShape
open Go.RowKit Go.Shelf Go.Lib

/-- A table, cell by cell. -/
def u8s : DataW Unit → Array Value
  | .agg l => (l.flatMap fun | .lit (.int k z) => [Value.int k z] | .agg m => m.flatMap (fun | .lit (.int k z) => [Value.int k z] | _ => []) | _ => []).toArray
  | _ => #[]
def laidB (cs : Array Value) : Obj → Obj
  | .cells _ t frozen => .cells cs t frozen
  | o => o
/-- A world with the tables laid. -/
def laidW (w : World) : World := { w with heap := ((((((w.heap.modify 5 (laidB (u8s Rows.laid_math_bits_deBruijn32tab))).modify 6 (laidB (u8s Rows.laid_math_bits_deBruijn64tab))).modify 4 (laidB (u8s Rows.laid_internal_strconv_uint64pow10))).modify 3 (laidB (u8s Rows.laid_unicode_utf8_acceptRanges))).modify 2 (laidB (u8s Go.Pinned.utf8First))).modify 1 (laidB #[.iface 214 (.agg #[.pointer (some ⟨7, 56, none⟩)])])) }
/-- The row's list without the handle. -/
def plainL : List (String × DataW Unit) := [("math/bits.deBruijn32tab", Rows.laid_math_bits_deBruijn32tab), ("math/bits.deBruijn64tab", Rows.laid_math_bits_deBruijn64tab), ("internal/strconv.uint64pow10", Rows.laid_internal_strconv_uint64pow10), ("unicode/utf8.acceptRanges", Rows.laid_unicode_utf8_acceptRanges), ("unicode/utf8.first", Rows.laid_unicode_utf8_first)]
theorem laid_part : (Rows.heapShapeUptoRow.laid.filter fun x => x.2.handleName?.isNone) = plainL := by kernel_rfl
theorem laid_met (os : Os) : laidMet Tryz.prog plainL ((laidW (World.holding Tryz.prog os ⟨#[], #[], []⟩)).forCall (fun _ _ => 0) ⟨#[], #[.slice none 0 0, .int .i64 0], []⟩).memory :=
  laidMet_of_run' 8 (by kernel_rfl) (by kernel_rfl)
theorem laid_metH (os : Os) : laidMetH Tryz.prog Rows.heapShapeUptoRow.laid ((laidW (World.holding Tryz.prog os ⟨#[], #[], []⟩)).forCall (fun _ _ => 0) ⟨#[], #[.slice none 0 0, .int .i64 0], []⟩).memory :=
  laidMetH_of_parts (by rw [laid_part]; exact laid_met os) (by kernel_rfl)
theorem vars (os : Os) : ((laidW (World.holding Tryz.prog os ⟨#[], #[], []⟩)).forCall (fun _ _ => 0) ⟨#[], #[.slice none 0 0, .int .i64 0], []⟩).variablesRefB Tryz.prog = true := by kernel_rfl
end Go.Proofs.YtmicdbplkfdfnaaGreatDoor.heapShape
