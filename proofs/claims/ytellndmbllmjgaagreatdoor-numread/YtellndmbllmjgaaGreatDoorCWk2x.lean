/- The walk of shortFloat. -/
import Derived.Test.YtellndmbllmjgaaGreatDoorCSlx
import Derived.Below
import Derived.RegionTactic
import Derived.Maps.AppendAt
import Derived.Laws.AppendOwn
import Derived.Test.YtellndmbllmjgaaGreatDoorCUp2x
import Derived.Lib.AppendIntMem
import Derived.Deep.RegionWith
import Derived.OwnWalk
import Derived.Lib.AtoiErrMem
import Derived.Test.YtellndmbllmjgaaGreatDoorCEx1x
import Derived.Laws.Sem
import GoSem.Extern.MathLog
set_option linter.unusedVariables false
namespace Go.Proofs.YtellndmbllmjgaaGreatDoor
open Go.RowKit Go.Shelf Fs

theorem uscale_any (x hi lo s b : Nat) (hx : x < 18446744073709551616) (hhi : hi < 18446744073709551616) (hlo : lo < 18446744073709551616) (hpm : lo ≤ hi * 18446744073709551616) (hs : s < 64) (w : World)
    (c0 : w.cell? ⟨b, 0, none⟩ = some (.int .u64 (hi : Int))) (c1 : w.cell? ⟨b, 1, none⟩ = some (.int .u64 (lo : Int))) (c2 : w.cell? ⟨b, 2, none⟩ = some (.int .i64 (s : Int))) :
    Calls Tryz.prog 254 #[.int .u64 (x : Int), .pointer (some ⟨b, 0, none⟩)] w fun e w' => e = .returned (.int .u64 (uscaleN x hi lo s : Nat)) ∧ ∃ n, w' = w.drewN n := by
  have h1 : x * lo ≤ x * hi * 18446744073709551616 := by rw [Nat.mul_assoc]; exact Nat.mul_le_mul_left x hpm
  have h2 : x * hi < 18446744073709551616 * 18446744073709551616 := Nat.mul_lt_mul_of_lt_of_lt hx hhi
  have h3 : x * lo < 18446744073709551616 * 18446744073709551616 := Nat.mul_lt_mul_of_lt_of_lt hx hlo
  refine (uscale_core x hi lo s b (x * hi / 18446744073709551616) (x * hi % 18446744073709551616) (x * lo / 18446744073709551616) (x * lo % 18446744073709551616) 0 hs (by omega) (by omega) (by omega) (fun h => by omega) w c0 c1 c2 (Tryz.bits_Mul64 x hi hx hhi) (Tryz.bits_Mul64 x lo hx hlo)).mono ?_
  rintro e w' ⟨rfl, hw⟩
  refine ⟨?_, hw⟩
  unfold uscaleN
  rfl

/-- The table's rows. -/
def Pow10At (w : World) (i hi lo : Nat) : Prop := w.cell? ⟨11, i * 2, none⟩ = some (.int .u64 (hi : Int)) ∧ w.cell? ⟨11, i * 2 + 1, none⟩ = some (.int .u64 (lo : Int))
theorem Pow10At.alloc {w : World} {i hi lo : Nat} (h : Pow10At w i hi lo) (hw : 11 < w.heap.size) (o : Obj) : Pow10At (w.alloc o) i hi lo := by
  unfold Pow10At
  rw [World.cell?_alloc_lt, World.cell?_alloc_lt]
  exact h
  all_goals exact hw
set_option maxRecDepth 100000 in
theorem prescale_any (hi lo s : Nat) (E p lp : Int) (w : World) (hw : 11 < w.heap.size) (hE0 : -2000 ≤ E) (hE1 : E ≤ 2000) (hl0 : -2000 ≤ lp) (hl1 : lp ≤ 2000) (hp0 : 0 ≤ p + 348) (hp1 : p + 348 < 696) (hs : -(E + lp + 3) = (s : Int)) (hT : Pow10At w (p + 348).toNat hi lo) :
    Calls Tryz.prog 252 #[.pointer (some ⟨w.heap.size, 0, none⟩), .int .i64 E, .int .i64 p, .int .i64 lp] (w.alloc (.cells #[.int .u64 0, .int .u64 0, .int .i64 0] 282)) fun e w' => e = .returned (.tuple #[]) ∧ w' = w.alloc (.cells #[.int .u64 (hi : Int), .int .u64 (lo : Int), .int .i64 (s : Int)] 282) := by
  have c0 : ∀ o, (w.alloc o).cell? ⟨11, (p + 348).toNat * 2, none⟩ = some (.int .u64 (hi : Int)) := fun o => (hT.alloc hw o).1
  have c1 : ∀ o, (w.alloc o).cell? ⟨11, (p + 348).toNat * 2 + 1, none⟩ = some (.int .u64 (lo : Int)) := fun o => (hT.alloc hw o).2
  clear hT
  go_enter Tryz.func252, Tryz.ntmps252
  go_wp2
  refine bodyPost_end (results_none rfl _ _ _) rfl ?_
  exact ⟨rfl, rfl⟩
theorem round_any (u : Nat) (h : u + 2 < 18446744073709551616) (w : World) : Calls Tryz.prog 258 #[.int .u64 (u : Int)] w fun e w' => e = .returned (.int .u64 (rnd u : Nat)) ∧ w' = w := by
  have k0 : bits .and .u64 ((u : Int) / 4) 1 = ((u / 4 % 2 : Nat) : Int) := by
    have := u64_and_nat (u / 4) 1 (by omega) (by omega)
    rw [Nat.and_one_is_mod] at this
    exact this
  have k1 : IntKind.u64.wrap ((u : Int) + 1) = ((u + 1 : Nat) : Int) := by rw [IntKind.wrap_u64]; omega
  have k2 : IntKind.u64.wrap (((u + 1 : Nat) : Int) + ((u / 4 % 2 : Nat) : Int)) = ((u + 1 + u / 4 % 2 : Nat) : Int) := by rw [IntKind.wrap_u64]; omega
  have k3 : ((u + 1 + u / 4 % 2 : Nat) : Int) / 4 = ((rnd u : Nat) : Int) := rfl
  generalize rnd u = R at *
  generalize u + 1 + u / 4 % 2 = b at *
  generalize u / 4 % 2 = a at *
  generalize u + 1 = c at *
  go_enter Tryz.func258, Tryz.ntmps258
  go_wp2
  go_ret
  exact ⟨rfl, rfl⟩
end Go.Proofs.YtellndmbllmjgaaGreatDoor
/- The walk of shortFloat: its three ways in, its three ways out. -/
set_option linter.unusedVariables false
namespace Go.Proofs.YtellndmbllmjgaaGreatDoor
open Go.RowKit Go.Shelf Fs

end Go.Proofs.YtellndmbllmjgaaGreatDoor
/- The walk of shortFloat, of the least floats. -/
set_option linter.unusedVariables false
namespace Go.Proofs.YtellndmbllmjgaaGreatDoor
open Go.RowKit Go.Shelf Fs

end Go.Proofs.YtellndmbllmjgaaGreatDoor
/- **shortFloat answers the fewest digits**, of every float above 0. -/
set_option linter.unusedVariables false
namespace Go.Proofs.YtellndmbllmjgaaGreatDoor
open Go.RowKit Go.Shelf Fs

/-- The table is laid. -/
def PowTab (w : World) : Prop := ∀ i, i < 696 → ∃ hi lo, Pow10At w i hi lo ∧ hi < 18446744073709551616 ∧ lo < 18446744073709551616 ∧ pmOf i + lo = hi * 18446744073709551616
end Go.Proofs.YtellndmbllmjgaaGreatDoor
/- The walk of setDigits. -/
set_option linter.unusedVariables false
namespace Go.Proofs.YtellndmbllmjgaaGreatDoor
open Go.RowKit Go.Shelf Go.Sort Go.Lib Fs

end Go.Proofs.YtellndmbllmjgaaGreatDoor
/- Bytes go in behind the bytes that a row owns: the steps, with what they keep. -/
set_option linter.unusedVariables false
namespace Go.Proofs.YtellndmbllmjgaaGreatDoor
open Go.RowKit Go.Shelf Fs

/-- New cells, as a list. -/
theorem cells_new (w : World) (l : List Value) (t : TypeId) : ∀ j u, l[j]? = some u → (w.alloc (.cells l.toArray t)).cell? ((⟨w.heap.size, 0, none⟩ : Addr).add j) = some u := by
  intro j u hj
  have e : ((⟨w.heap.size, 0, none⟩ : Addr).add j) = ⟨w.heap.size, j, none⟩ := by
    unfold Addr.add
    split <;> simp_all
  rw [e]
  have h := heap_alloc_new w (Obj.cells l.toArray t)
  simp only [World.cell?, h]
  simpa using hj
theorem one_ints (k : IntKind) (l : List Int) : ∀ u ∈ l.map (Value.int k), u.oneCell' = true := by
  intro u hu
  obtain ⟨x, _, rfl⟩ := List.mem_map.1 hu
  rfl
theorem max_small {n : Nat} (h : n ≤ 1000000) : n ≤ maxLen := by unfold maxLen; omega
theorem lt_of_get {w : World} {k : Nat} {o : Obj} (h : w.heap[k]? = some o) : k < w.heap.size := by
  rcases Nat.lt_or_ge k w.heap.size with h1 | h1
  · exact h1
  · rw [Array.getElem?_eq_none h1] at h
    cases h
section
variable {ops : Array Oper} {rest : List Oper} {o : Oper} {a : Act} {Q : Exit → Act → World → Prop}
end
end Go.Proofs.YtellndmbllmjgaaGreatDoor
/- The walk of fmtEFG, at the shortest digits and 'e'. -/
set_option linter.unusedVariables false
namespace Go.Proofs.YtellndmbllmjgaaGreatDoor
open Go.RowKit Go.Shelf Go.Sort Fs

end Go.Proofs.YtellndmbllmjgaaGreatDoor
/- The walk of fmtEFG, at the shortest digits and 'e', of more digits than one. -/
set_option linter.unusedVariables false
namespace Go.Proofs.YtellndmbllmjgaaGreatDoor
open Go.RowKit Go.Shelf Go.Sort Fs

end Go.Proofs.YtellndmbllmjgaaGreatDoor
/- fmtEFG at the shortest digits and 'e', all in one; what a world holds. -/
set_option linter.unusedVariables false
namespace Go.Proofs.YtellndmbllmjgaaGreatDoor
open Go.RowKit Go.Shelf Go.Sort Fs

/-- What a world holds of the library's variables. -/
structure Laid (w : World) : Prop where
  pow : PowTab w
  p10 : Lib.TabIs Tryz.prog w "internal/strconv.uint64pow10" .u64 Lib.pow10Tab
  most : ∃ m, w.cell? ⟨6, 0, none⟩ = some (.int .i64 m)
theorem cell_block {w : World} {b j : Nat} {u : Value} (h : w.cell? ⟨b, j, none⟩ = some u) : b < w.heap.size := by
  rcases Nat.lt_or_ge b w.heap.size with h1 | h1
  · exact h1
  · simp [World.cell?, Array.getElem?_eq_none h1] at h
theorem Laid.size {w : World} (h : Laid w) : 11 < w.heap.size := by
  obtain ⟨hi, lo, hr, _⟩ := h.pow 0 (by omega)
  exact cell_block hr.1
theorem Laid.below {w w' : World} (h : Laid w) (hb : Below w.heap.size w w') : Laid w' := by
  have hs := h.size
  refine ⟨?_, ?_, ?_⟩
  · intro i hi
    obtain ⟨a, b, hr, h1⟩ := h.pow i hi
    refine ⟨a, b, ⟨?_, ?_⟩, h1⟩
    · exact (hb.cell (p := ⟨11, i * 2, none⟩) hs).trans hr.1
    · exact (hb.cell (p := ⟨11, i * 2 + 1, none⟩) hs).trans hr.2
  · exact Lib.tabBelow_of_tabIs h.p10 w' hb
  · obtain ⟨m, hm⟩ := h.most
    exact ⟨m, (hb.cell (p := ⟨6, 0, none⟩) (show 6 < w.heap.size by omega)).trans hm⟩
theorem below_drewN {n m : Nat} {w w1 : World} (h : Below n w w1) : Below n w (w1.drewN m) := ⟨h.os, h.tape, h.output, h.size, h.block⟩
end Go.Proofs.YtellndmbllmjgaaGreatDoor
/- The walk of ftoa64 and FormatFloat, at a float above 0, 'e', the fewest digits. -/
set_option linter.unusedVariables false
namespace Go.Proofs.YtellndmbllmjgaaGreatDoor
open Go.RowKit Go.Shelf Go.Sort Fs

end Go.Proofs.YtellndmbllmjgaaGreatDoor
/- The walk of ftoa64, of the least floats. -/
set_option linter.unusedVariables false
namespace Go.Proofs.YtellndmbllmjgaaGreatDoor
open Go.RowKit Go.Shelf Go.Sort Fs

end Go.Proofs.YtellndmbllmjgaaGreatDoor
/- ftoa64, at every float above 0. -/
set_option linter.unusedVariables false
namespace Go.Proofs.YtellndmbllmjgaaGreatDoor
open Go.RowKit Go.Shelf Go.Sort Fs Fl

/-- A number's bits. -/
theorem bitLen_bounds (M : Nat) (h0 : M ≠ 0) (h : M < 18446744073709551616) : 1 ≤ Lib.bitLen M ∧ 2 ^ (Lib.bitLen M - 1) ≤ M ∧ M < 2 ^ Lib.bitLen M := Lib.bitLenAux_bounds 64 M (by omega) h0
end Go.Proofs.YtellndmbllmjgaaGreatDoor
/- FormatFloat, at every float above 0. -/
set_option linter.unusedVariables false
namespace Go.Proofs.YtellndmbllmjgaaGreatDoor
open Go.RowKit Go.Shelf Go.Sort Fs Fl

/-- Bytes as a text. -/
def txt (l : List Nat) : ByteArray := ⟨(l.map UInt8.ofNat).toArray⟩
end Go.Proofs.YtellndmbllmjgaaGreatDoor
/- The written number taken apart: digits, exponent. -/
set_option linter.unusedVariables false
namespace Go.Proofs.YtellndmbllmjgaaGreatDoor
open Go.RowKit Go.Shelf Go.Sort Fs Fl

end Go.Proofs.YtellndmbllmjgaaGreatDoor
/- The walk of num.shortest. -/
set_option linter.unusedVariables false
namespace Go.Proofs.YtellndmbllmjgaaGreatDoor
open Go.RowKit Go.Shelf Go.Sort Fs Fl

theorem txt_list (l : List Nat) : (txt l).data.toList = l.map UInt8.ofNat := by simp [txt]
theorem txt_size (l : List Nat) : (txt l).size = l.length := by simp [txt, ByteArray.size]
theorem ofNat_ne {a b : Nat} (ha : a < 256) (hb : b < 256) (h : a ≠ b) : UInt8.ofNat a ≠ UInt8.ofNat b := by
  intro e
  have := congrArg UInt8.toNat e
  rw [UInt8.toNat_ofNat', UInt8.toNat_ofNat', Nat.mod_eq_of_lt ha, Nat.mod_eq_of_lt hb] at this
  exact h this
end Go.Proofs.YtellndmbllmjgaaGreatDoor
/- The walk of pointed. -/
set_option linter.unusedVariables false
namespace Go.Proofs.YtellndmbllmjgaaGreatDoor
open Go.RowKit Go.Shelf Go.Sort Fs Fl

theorem txt_append (l m : List Nat) : txt l ++ txt m = txt (l ++ m) := by
  apply ByteArray.ext
  simp [txt, ByteArray.data_append]
theorem txt_extract (l : List Nat) (i j : Nat) : (txt l).extract i j = txt ((l.drop i).take (j - i)) := by
  apply ByteArray.ext
  apply Array.ext'
  simp [txt, ByteArray.data_extract, List.extract_eq_take_drop, List.map_take, List.map_drop]
end Go.Proofs.YtellndmbllmjgaaGreatDoor
/- The walk of powered. -/
set_option linter.unusedVariables false
namespace Go.Proofs.YtellndmbllmjgaaGreatDoor
open Go.RowKit Go.Shelf Go.Sort Fs Fl

end Go.Proofs.YtellndmbllmjgaaGreatDoor
/- The walk of num.Text. -/
set_option linter.unusedVariables false
namespace Go.Proofs.YtellndmbllmjgaaGreatDoor
open Go.RowKit Go.Shelf Go.Sort Fs Fl

end Go.Proofs.YtellndmbllmjgaaGreatDoor
/- num.Text, at every word. -/
set_option linter.unusedVariables false
namespace Go.Proofs.YtellndmbllmjgaaGreatDoor
open Go.RowKit Go.Shelf Go.Sort Fs Fl

end Go.Proofs.YtellndmbllmjgaaGreatDoor
/- num.Text, at every word, all in one. -/
set_option linter.unusedVariables false
namespace Go.Proofs.YtellndmbllmjgaaGreatDoor
open Go.RowKit Go.Shelf Go.Sort Fs Fl

end Go.Proofs.YtellndmbllmjgaaGreatDoor
/- The walks of pack64 and parseFloat64. -/
set_option linter.unusedVariables false
namespace Go.Proofs.YtellndmbllmjgaaGreatDoor
open Go.RowKit Go.Shelf Fs

theorem Tryz.frombits294 (x : Int) (w : World) : (callFunc 295 #[.int .u64 x]).run Tryz.prog w = .ok (.value (.float .f64 x.toNat)) w := by
  rw [run_callFunc_extern (P := Tryz.prog) (f := 295) (e := Extern.MathFloatBits.float64frombits) Tryz.func295 (by kernel_rfl) (by kernel_rfl) (by kernel_rfl) (by kernel_rfl)]
  rfl
theorem unmin_any (w : World) : Calls Tryz.prog 260 #[.int .u64 9007199254740992] w fun e w' => e = .returned (.int .u64 36028797018963966) ∧ w' = w := by
  go_enter Tryz.func260, Tryz.ntmps260
  go_wp2
  go_ret
  exact ⟨rfl, rfl⟩
theorem pack_lo (m : Nat) (e : Int) (h : m < 4503599627370496) (w : World) : Calls Tryz.prog 303 #[.int .u64 (m : Int), .int .i64 e] w fun r w' => r = .returned (.tuple #[.float .f64 m, .nilIface]) ∧ w' = w := by
  have k1 := and52_lo m h
  have x1 := Tryz.frombits294 (m : Int)
  rw [Int.toNat_natCast] at x1
  clear h
  go_enter Tryz.func303, Tryz.ntmps303
  go_wp2
  go_ret2
  exact ⟨rfl, rfl⟩
theorem pack_inf (m : Nat) (e : Int) (h : 4503599627370496 ≤ m) (h2 : m < 9007199254740992) (he : 972 ≤ e) (w : World) : Calls Tryz.prog 303 #[.int .u64 (m : Int), .int .i64 e] w fun r w' => r = .returned (.tuple #[.float .f64 9218868437227405312, .iface 182 (.int .i64 1)]) ∧ w' = w := by
  have k1 := and52_hi m h h2
  have k2 := and63_lo m (by omega)
  have k3 : bits .or .u64 0 9218868437227405312 = 9218868437227405312 := or_none 9218868437227405312 (by omega)
  have x1 := Tryz.frombits294 9218868437227405312
  clear h h2
  go_enter Tryz.func303, Tryz.ntmps303
  go_wp2
  go_ret2
  exact ⟨rfl, rfl⟩
set_option maxRecDepth 100000 in
theorem pack_mid (m q : Nat) (e : Int) (h : 4503599627370496 ≤ m) (h2 : m < 9007199254740992) (he : e < 972) (he2 : -1074 ≤ e) (hq : 1075 + e = (q : Int)) (w : World) : Calls Tryz.prog 303 #[.int .u64 (m : Int), .int .i64 e] w fun r w' => r = .returned (.tuple #[.float .f64 (q * 4503599627370496 + (m - 4503599627370496)), .nilIface]) ∧ w' = w := by
  have k1 := and52_hi m h h2
  have k2 := strip52 m h h2
  have k3 : bits .or .u64 ((m - 4503599627370496 : Nat) : Int) ((q : Int) * 4503599627370496) = ((q * 4503599627370496 + (m - 4503599627370496) : Nat) : Int) := or_exp (m - 4503599627370496) q (by omega) (by omega)
  have x1 := Tryz.frombits294 ((q * 4503599627370496 + (m - 4503599627370496) : Nat) : Int)
  rw [Int.toNat_natCast] at x1
  have he' : ¬ 972 ≤ e := by omega
  have hqw : IntKind.u64.wrap (q : Int) = (q : Int) := by rw [IntKind.wrap_u64]; omega
  have hqs : IntKind.u64.wrap ((q : Int) * 4503599627370496) = ((q * 4503599627370496 : Nat) : Int) := by rw [IntKind.wrap_u64]; omega
  clear h h2 he
  generalize q * 4503599627370496 + (m - 4503599627370496) = Z at *
  generalize m - 4503599627370496 = f at *
  go_enter Tryz.func303, Tryz.ntmps303
  go_wp2
  go_ret2
  exact ⟨rfl, rfl⟩
theorem log2_any (p : Int) (h1 : -1000 ≤ p) (h2 : p ≤ 1000) (w : World) : Calls Tryz.prog 253 #[.int .i64 p] w fun r w' => r = .returned (.int .i64 (lpI p)) ∧ w' = w := by
  have e1 : lpI p = p * 108853 / 32768 := rfl
  rw [e1]
  go_enter Tryz.func253, Tryz.ntmps253
  go_wp2
  go_ret
  exact ⟨rfl, rfl⟩
set_option maxRecDepth 100000 in
set_option maxHeartbeats 1000000 in
theorem parse64_none (d b : Nat) (p lp e : Int) (s hi lo : Nat) (w : World) (hw : 11 < w.heap.size) (hd : d < 18446744073709551616) (hb : Lib.bitLen d = b) (hb1 : 0 < b) (hb2 : b ≤ 64) (hp0 : -345 ≤ p) (hp1 : p ≤ 310) (hlp : lpI p = lp) (hl0 : -1200 ≤ lp) (hl1 : lp ≤ 1100) (he : e = min 1074 (53 - (b : Int) - lp)) (he0 : -1200 ≤ e) (he1 : e ≤ 1074)
    (hs : -(e - (64 - (b : Int)) + lp + 3) = (s : Int)) (hs64 : 64 ≤ s) (hs2 : s ≤ 200) (hT : Pow10At w (p + 348).toNat hi lo) :
    Calls Tryz.prog 297 #[.int .u64 (d : Int), .int .i64 p, .int .u64 0] w fun r w' => r = .returned (.tuple #[.float .f64 0, .nilIface]) ∧ Below w.heap.size w w' := by
  have cb := Tryz.bits_Len64 (d : Int) w (by omega) (by omega)
  rw [Int.toNat_natCast, hb] at cb
  have cl := log2_any p (by omega) (by omega)
  rw [hlp] at cl
  have cp := prescale_any hi lo s (e - (64 - (b : Int))) p lp w hw (by omega) (by omega) (by omega) (by omega) (by omega) (by omega) hs hT
  have x1 := Tryz.frombits294 0
  go_enter Tryz.func297, Tryz.ntmps297
  go_wp2_with (first | (go_at_call 216; refine cb.mono ?_; rintro e w' ⟨rfl, rfl⟩) | (go_at_call 253; refine (cl _).mono ?_; rintro e w' ⟨rfl, rfl⟩) | (go_at_call 252; fail))
  rw [← he]
  refine cp.mono ?_
  rintro ee w1 ⟨rfl, hw1⟩
  have hc : w1.cell? ⟨w'.heap.size, 2, none⟩ = some (.int .i64 (s : Int)) := by rw [hw1]; simp
  have hB : Below w'.heap.size w' w1 := by rw [hw1]; exact (Below.refl _ _).alloc (Nat.le_refl _) _
  have h64 : (64 : Int) ≤ (s : Int) := by omega
  have k1 : bits .or .u64 0 0 = 0 := by decide
  clear hw1 cp cb cl hT
  go_wp2
  go_ret2
  exact ⟨rfl, hB⟩
set_option maxRecDepth 100000 in
set_option maxHeartbeats 1000000 in
theorem parse64_lo (d b : Nat) (p lp e : Int) (s hi lo u X R : Nat) (err : Value) (F : Nat) (w : World) (hw : 11 < w.heap.size) (hd : d < 18446744073709551616) (hb : Lib.bitLen d = b) (hb1 : 0 < b) (hb2 : b ≤ 64) (hp0 : -345 ≤ p) (hp1 : p ≤ 310) (hlp : lpI p = lp) (hl0 : -1200 ≤ lp) (hl1 : lp ≤ 1100) (he : e = min 1074 (53 - (b : Int) - lp)) (he0 : -1200 ≤ e) (he1 : e ≤ 1074)
    (hs : -(e - (64 - (b : Int)) + lp + 3) = (s : Int)) (hs64 : s < 64) (hs2 : 8 ≤ s) (hT : Pow10At w (p + 348).toNat hi lo)
    (hX : d * 2 ^ (64 - b) = X) (hX2 : X < 18446744073709551616) (hhi : hi < 18446744073709551616) (hlo : lo < 18446744073709551616) (hpm : lo ≤ hi * 18446744073709551616)
    (hu : uscaleN X hi lo s = u) (hu2 : u < 36028797018963966) (hu3 : 0 ≤ u) (hR : rnd u = R) (hR2 : R < 9007199254740992)
    (hpk : ∀ w, Calls Tryz.prog 303 #[.int .u64 (R : Int), .int .i64 (-(e))] w fun r w' => r = .returned (.tuple #[.float .f64 F, err]) ∧ w' = w) :
    Calls Tryz.prog 297 #[.int .u64 (d : Int), .int .i64 p, .int .u64 0] w fun r w' => r = .returned (.tuple #[.float .f64 F, err]) ∧ Below w.heap.size w w' := by
  have cb := Tryz.bits_Len64 (d : Int) w (by omega) (by omega)
  rw [Int.toNat_natCast, hb] at cb
  have cl := log2_any p (by omega) (by omega)
  rw [hlp] at cl
  have cp := prescale_any hi lo s (e - (64 - (b : Int))) p lp w hw (by omega) (by omega) (by omega) (by omega) (by omega) (by omega) hs hT
  have cr := round_any u (by omega)
  rw [hR] at cr
  go_enter Tryz.func297, Tryz.ntmps297
  go_wp2_with (first | (go_at_call 216; refine cb.mono ?_; rintro e w' ⟨rfl, rfl⟩) | (go_at_call 253; refine (cl _).mono ?_; rintro e w' ⟨rfl, rfl⟩) | (go_at_call 252; fail))
  rw [← he]
  refine cp.mono ?_
  rintro ee w1 ⟨rfl, hw1⟩
  have hc0 : w1.cell? ⟨w'.heap.size, 0, none⟩ = some (.int .u64 (hi : Int)) := by rw [hw1]; simp
  have hc1 : w1.cell? ⟨w'.heap.size, 1, none⟩ = some (.int .u64 (lo : Int)) := by rw [hw1]; simp
  have hc : w1.cell? ⟨w'.heap.size, 2, none⟩ = some (.int .i64 (s : Int)) := by rw [hw1]; simp
  have hB : Below w'.heap.size w' w1 := by rw [hw1]; exact (Below.refl _ _).alloc (Nat.le_refl _) _
  have cu := uscale_any X hi lo s w'.heap.size hX2 hhi hlo hpm hs64 w1 hc0 hc1 hc
  rw [hu] at cu
  have h64 : ¬ (64 : Int) ≤ (s : Int) := by omega
  clear hw1 cp cb cl
  have hXw : IntKind.u64.wrap ((d : Int) * 2 ^ (64 - b)) = (X : Int) := by
    have e1 : (d : Int) * 2 ^ (64 - b) = ((d * 2 ^ (64 - b) : Nat) : Int) := by rw [Int.natCast_mul, Int.natCast_pow]; rfl
    rw [e1, hX, IntKind.wrap_u64]
    omega
  go_wp2_with (first | (go_at_call 254; fail))
  refine cu.mono ?_
  rintro ee w2 ⟨rfl, n2, hw2⟩
  have hB2 : Below w'.heap.size w' w2 := by rw [hw2]; exact below_drewN hB
  have q1 : decide ((36028797018963966 : Int) ≤ (u : Int)) = false := decide_eq_false (by omega)
  have q2 := and_one u (by omega)
  have q3 : bits .or .u64 (u : Int) ((u : Int) % 2) = (u : Nat) := or_same u (by omega)
  have q4 := or_none R (by omega)
  have cm := unmin_any
  have c2 : ∀ w, Calls Tryz.prog 259 #[.bool false] w fun e w' => e = .returned (.int .i64 0) ∧ w' = w := Tryz.internal_strconv_bool2_int false
  clear hw2 cu hXw hX hu hR hB hc0 hc1 hc h64 hT
  rw [← he] at *
  go_wp2_with (first | (go_at_call 260; refine (cm _).mono ?_; rintro e w' ⟨rfl, rfl⟩) | (go_at_call 259; refine (c2 _).mono ?_; rintro ee w3 ⟨rfl, rfl⟩) | (go_at_call 258; refine (cr _).mono ?_; rintro ee w4 ⟨rfl, rfl⟩) | (go_at_call 303; fail))
  refine (hpk _).mono ?_
  rintro ee w5 ⟨rfl, rfl⟩
  go_wp2
  go_ret2
  exact ⟨rfl, hB2⟩
set_option maxRecDepth 100000 in
set_option maxHeartbeats 1000000 in
theorem parse64_hi (d b : Nat) (p lp e : Int) (s hi lo u X R : Nat) (err : Value) (F : Nat) (w : World) (hw : 11 < w.heap.size) (hd : d < 18446744073709551616) (hb : Lib.bitLen d = b) (hb1 : 0 < b) (hb2 : b ≤ 64) (hp0 : -345 ≤ p) (hp1 : p ≤ 310) (hlp : lpI p = lp) (hl0 : -1200 ≤ lp) (hl1 : lp ≤ 1100) (he : e = min 1074 (53 - (b : Int) - lp)) (he0 : -1200 ≤ e) (he1 : e ≤ 1074)
    (hs : -(e - (64 - (b : Int)) + lp + 3) = (s : Int)) (hs64 : s < 64) (hs2 : 8 ≤ s) (hT : Pow10At w (p + 348).toNat hi lo)
    (hX : d * 2 ^ (64 - b) = X) (hX2 : X < 18446744073709551616) (hhi : hi < 18446744073709551616) (hlo : lo < 18446744073709551616) (hpm : lo ≤ hi * 18446744073709551616)
    (hu : uscaleN X hi lo s = u) (hu2 : u < 72057594037927936) (hu3 : 36028797018963966 ≤ u) (hR : rnd (half u) = R) (hR2 : R < 9007199254740992)
    (hpk : ∀ w, Calls Tryz.prog 303 #[.int .u64 (R : Int), .int .i64 (-(e - 1))] w fun r w' => r = .returned (.tuple #[.float .f64 F, err]) ∧ w' = w) :
    Calls Tryz.prog 297 #[.int .u64 (d : Int), .int .i64 p, .int .u64 0] w fun r w' => r = .returned (.tuple #[.float .f64 F, err]) ∧ Below w.heap.size w w' := by
  have cb := Tryz.bits_Len64 (d : Int) w (by omega) (by omega)
  rw [Int.toNat_natCast, hb] at cb
  have cl := log2_any p (by omega) (by omega)
  rw [hlp] at cl
  have cp := prescale_any hi lo s (e - (64 - (b : Int))) p lp w hw (by omega) (by omega) (by omega) (by omega) (by omega) (by omega) hs hT
  have cr := round_any (half u) (by rw [half_eq]; split <;> omega)
  rw [hR] at cr
  go_enter Tryz.func297, Tryz.ntmps297
  go_wp2_with (first | (go_at_call 216; refine cb.mono ?_; rintro e w' ⟨rfl, rfl⟩) | (go_at_call 253; refine (cl _).mono ?_; rintro e w' ⟨rfl, rfl⟩) | (go_at_call 252; fail))
  rw [← he]
  refine cp.mono ?_
  rintro ee w1 ⟨rfl, hw1⟩
  have hc0 : w1.cell? ⟨w'.heap.size, 0, none⟩ = some (.int .u64 (hi : Int)) := by rw [hw1]; simp
  have hc1 : w1.cell? ⟨w'.heap.size, 1, none⟩ = some (.int .u64 (lo : Int)) := by rw [hw1]; simp
  have hc : w1.cell? ⟨w'.heap.size, 2, none⟩ = some (.int .i64 (s : Int)) := by rw [hw1]; simp
  have hB : Below w'.heap.size w' w1 := by rw [hw1]; exact (Below.refl _ _).alloc (Nat.le_refl _) _
  have cu := uscale_any X hi lo s w'.heap.size hX2 hhi hlo hpm hs64 w1 hc0 hc1 hc
  rw [hu] at cu
  have h64 : ¬ (64 : Int) ≤ (s : Int) := by omega
  clear hw1 cp cb cl
  have hXw : IntKind.u64.wrap ((d : Int) * 2 ^ (64 - b)) = (X : Int) := by
    have e1 : (d : Int) * 2 ^ (64 - b) = ((d * 2 ^ (64 - b) : Nat) : Int) := by rw [Int.natCast_mul, Int.natCast_pow]; rfl
    rw [e1, hX, IntKind.wrap_u64]
    omega
  go_wp2_with (first | (go_at_call 254; fail))
  refine cu.mono ?_
  rintro ee w2 ⟨rfl, n2, hw2⟩
  have hB2 : Below w'.heap.size w' w2 := by rw [hw2]; exact below_drewN hB
  have q1 : decide ((36028797018963966 : Int) ≤ (u : Int)) = true := decide_eq_true (by omega)
  have q2 := and_one u (by omega)
  have q3 : bits .or .u64 ((u : Int) / 2) ((u : Int) % 2) = ((half u) : Nat) := or_half2 u (by omega)
  have q4 := or_none R (by omega)
  have cm := unmin_any
  have c2 : ∀ w, Calls Tryz.prog 259 #[.bool true] w fun e w' => e = .returned (.int .i64 1) ∧ w' = w := Tryz.internal_strconv_bool2_int true
  clear hw2 cu hXw hX hu hR hB hc0 hc1 hc h64 hT
  generalize half u = hu at *
  rw [← he] at *
  go_wp2_with (first | (go_at_call 260; refine (cm _).mono ?_; rintro e w' ⟨rfl, rfl⟩) | (go_at_call 259; refine (c2 _).mono ?_; rintro ee w3 ⟨rfl, rfl⟩) | (go_at_call 258; refine (cr _).mono ?_; rintro ee w4 ⟨rfl, rfl⟩) | (go_at_call 303; fail))
  refine (hpk _).mono ?_
  rintro ee w5 ⟨rfl, rfl⟩
  go_wp2
  go_ret2
  exact ⟨rfl, hB2⟩
end Go.Proofs.YtellndmbllmjgaaGreatDoor
/- parseFloat64 answers the nearest word. -/
set_option linter.unusedVariables false
namespace Go.Proofs.YtellndmbllmjgaaGreatDoor
open Go.RowKit Go.Shelf Fs

theorem aux_is : ∀ (f d : Nat), d < 2 ^ f → 0 < d → 2 ^ (Lib.bitLenAux f d - 1) ≤ d ∧ d < 2 ^ Lib.bitLenAux f d ∧ 0 < Lib.bitLenAux f d
  | 0, d, h, h0 => by simp at h; omega
  | f + 1, d, h, h0 => by
    unfold Lib.bitLenAux
    rw [if_neg (by omega)]
    by_cases h1 : d / 2 = 0
    · have hd : d = 1 := by omega
      subst hd
      have e : Lib.bitLenAux f (1 / 2) = 0 := by cases f <;> simp [Lib.bitLenAux]
      rw [e]
      decide
    · obtain ⟨a, b, c⟩ := aux_is f (d / 2) (by rw [Nat.pow_succ] at h; omega) (by omega)
      generalize Lib.bitLenAux f (d / 2) = k at *
      obtain ⟨k', rfl⟩ : ∃ k', k = k' + 1 := ⟨k - 1, by omega⟩
      simp only [Nat.add_sub_cancel] at a ⊢
      rw [Nat.pow_succ] at b
      refine ⟨?_, ?_, by omega⟩
      · first | (rw [show 1 + (k' + 1) - 1 = k' + 1 by omega, Nat.pow_succ]; omega) | (rw [Nat.pow_succ]; omega)
      · first | (rw [show 1 + (k' + 1) = k' + 1 + 1 by omega, Nat.pow_succ, Nat.pow_succ]; omega) | (rw [Nat.pow_succ, Nat.pow_succ]; omega)
theorem bitLen_is (d : Nat) (h0 : 0 < d) (h : d < 18446744073709551616) : 2 ^ (Lib.bitLen d - 1) ≤ d ∧ d < 2 ^ Lib.bitLen d ∧ 0 < Lib.bitLen d := aux_is 64 d h h0
theorem pack_any (m E' : Nat) (hm : m < 9007199254740992) (hm2 : 4503599627370496 ≤ m ∨ E' = 0) (hE' : E' ≤ 2201) : ∃ F err, F = min (E' * 4503599627370496 + m) 9218868437227405312 ∧ (∀ w, Calls Tryz.prog 303 #[.int .u64 (m : Int), .int .i64 (-(1074 - (E' : Int)))] w fun r w' => r = .returned (.tuple #[.float .f64 F, err]) ∧ w' = w) ∧ (err = .nilIface ∨ err = .iface 182 (.int .i64 1)) := by
  rcases Nat.lt_or_ge m 4503599627370496 with hlt | hge
  · exact ⟨m, .nilIface, by omega, fun w => pack_lo m _ hlt w, .inl rfl⟩
  · rcases Int.lt_or_le (-(1074 - (E' : Int))) 972 with h9 | h9
    · exact ⟨_, .nilIface, by omega, fun w => pack_mid m (E' + 1) (-(1074 - (E' : Int))) hge hm h9 (by omega) (by omega) w, .inl rfl⟩
    · exact ⟨9218868437227405312, .iface 182 (.int .i64 1), by omega, fun w => pack_inf m (-(1074 - (E' : Int))) hge hm h9 w, .inr rfl⟩
set_option maxHeartbeats 1000000 in
/-- **parseFloat64: the nearest word.** -/
theorem parse64_any (d j : Nat) (hd0 : 0 < d) (hd : d < 18446744073709551616) (hj : 55 ≤ j) (hj2 : j ≤ 710) (w : World) (hT : PowTab w) (hw : 11 < w.heap.size) :
    Calls Tryz.prog 297 #[.int .u64 (d : Int), .int .i64 ((j : Int) - 400), .int .u64 0] w fun r w' => ∃ R err, DecNear d j R ∧ r = .returned (.tuple #[.float .f64 (min R 9218868437227405312), err]) ∧ (err = .nilIface ∨ err = .iface 182 (.int .i64 1)) ∧ Below w.heap.size w w' := by
  obtain ⟨b, hb⟩ : ∃ b, b = Lib.bitLen d := ⟨_, rfl⟩
  obtain ⟨h1, h2, hb0⟩ : 2 ^ (b - 1) ≤ d ∧ d < 2 ^ b ∧ 0 < b := by rw [hb]; exact bitLen_is d hd0 hd
  have hb64 : b ≤ 64 := by
    rcases Nat.lt_or_ge 64 b with h | h
    · exfalso
      have h3 : 2 ^ 64 ≤ 2 ^ (b - 1) := Nat.pow_le_pow_right (by decide) (by omega)
      omega
    · exact h
  obtain ⟨lp, e, s, e1, e2, e3, l0, l1, ee0, ee1, s8, s200, hcase⟩ := parse_all d b j (by omega) hb64 h1 h2 hj hj2
  obtain ⟨hi, lo, hr, hhi, hlo, hpm⟩ := hT (((j : Int) - 400 + 348).toNat) (by omega)
  rcases hcase with ⟨h64, hn⟩ | ⟨h64, sN, E, hsN, hs8, hE, hE2, hpk⟩
  · obtain ⟨sN, hsN⟩ : ∃ sN : Nat, s = (sN : Int) := ⟨s.toNat, by omega⟩
    refine (parse64_none d b _ lp e sN hi lo w hw hd hb.symm (by omega) hb64 (by omega) (by omega) e1.symm l0 l1 e2 ee0 ee1 (by omega) (by omega) (by omega) hr).mono ?_
    rintro r w' ⟨rfl, hB⟩
    exact ⟨0, .nilIface, hn, rfl, .inl rfl, hB⟩
  · have hX2 : d * 2 ^ (64 - b) < 18446744073709551616 := by
      have := (Nat.mul_lt_mul_right (Nat.two_pow_pos (64 - b))).2 h2
      rw [← Nat.pow_add, show b + (64 - b) = 64 by omega] at this
      exact this
    have hidx : ((j : Int) - 400 + 348).toNat = j - 52 := by omega
    obtain ⟨hn, u1, u2, u3⟩ := hpk.at' hi lo hhi hlo (by rw [← hidx]; exact hpm)
    obtain ⟨u, hu⟩ : ∃ u, u = uscaleN (d * 2 ^ (64 - b)) hi lo sN := ⟨_, rfl⟩
    rw [← hu] at hn u1 u2 u3
    have fin : ∀ (m E' : Nat), m < 9007199254740992 → (4503599627370496 ≤ m ∨ E' = 0) → E' ≤ 2201 → ∃ F err, F = min (E' * 4503599627370496 + m) 9218868437227405312 ∧ (∀ w, Calls Tryz.prog 303 #[.int .u64 (m : Int), .int .i64 (-(1074 - (E' : Int)))] w fun r w' => r = .returned (.tuple #[.float .f64 F, err]) ∧ w' = w) ∧ (err = .nilIface ∨ err = .iface 182 (.int .i64 1)) := pack_any
    rcases Nat.lt_or_ge u 36028797018963966 with hlt | hge
    · obtain ⟨m1, m2⟩ := u2 hlt
      obtain ⟨F, err, hF, hp, herr⟩ := fin (rnd u) E m1 m2 (by omega)
      refine (parse64_lo d b _ lp e sN hi lo u _ (rnd u) err F w hw hd hb.symm (by omega) hb64 (by omega) (by omega) e1.symm l0 l1 e2 ee0 ee1 (by omega) (by omega) hs8 hr rfl hX2 hhi hlo (by omega) hu.symm hlt (Nat.zero_le _) rfl m1 (by rw [hE]; exact hp)).mono ?_
      rintro r w' ⟨rfl, hB⟩
      refine ⟨_, err, hn, ?_, herr, hB⟩
      unfold packN
      rw [if_pos hlt, ← hF]
    · obtain ⟨m1, m2, m3⟩ := u3 hge
      obtain ⟨F, err, hF, hp, herr⟩ := fin (rnd (half u)) (E + 1) m2 (.inl m1) (by omega)
      refine (parse64_hi d b _ lp e sN hi lo u _ (rnd (half u)) err F w hw hd hb.symm (by omega) hb64 (by omega) (by omega) e1.symm l0 l1 e2 ee0 ee1 (by omega) (by omega) hs8 hr rfl hX2 hhi hlo (by omega) hu.symm u1 hge rfl m2 (by rw [hE, show -(1074 - (E : Int) - 1) = -(1074 - ((E + 1 : Nat) : Int)) by omega]; exact hp)).mono ?_
      rintro r w' ⟨rfl, hB⟩
      refine ⟨_, err, hn, ?_, herr, hB⟩
      unfold packN
      rw [if_neg (Nat.not_lt.2 hge), ← hF]
end Go.Proofs.YtellndmbllmjgaaGreatDoor
/- Plain mathematics: sums, products and quotients of words that are not great are not great. -/
set_option linter.unusedVariables false
namespace Go.Proofs.YtellndmbllmjgaaGreatDoor
namespace Fl
open Ieee

/-- A power that is not to be written out. -/
def e2 (n : Nat) : Nat := 2 ^ n
theorem e2_add (a b : Nat) : e2 (a + b) = e2 a * e2 b := Nat.pow_add 2 a b
/-- A sum of two words, exactly. -/
theorem sum_of (s t : Bool) (a b : Nat) : ∃ (n : Bool) (mag k : Nat), (Datum.number s (magR a) ((expR a : Int) - 1074)).sum (Datum.number t (magR b) ((expR b : Int) - 1074)) = some (Datum.number n mag ((k : Int) - (1074 : Nat))) ∧ mag * 2 ^ k = (key s (valR a) + key t (valR b)).natAbs ∧ (key s (valR a) + key t (valR b) ≠ 0 → n = decide (key s (valR a) + key t (valR b) < 0)) := by
  obtain ⟨k, hk⟩ : ∃ k, k = min (expR a) (expR b) := ⟨_, rfl⟩
  have e0 : min ((expR a : Int) - 1074) ((expR b : Int) - 1074) = (k : Int) - (1074 : Nat) := by omega
  have e1 : ((expR a : Int) - 1074 - ((k : Int) - (1074 : Nat))).toNat = expR a - k := by omega
  have e2 : ((expR b : Int) - 1074 - ((k : Int) - (1074 : Nat))).toNat = expR b - k := by omega
  simp only [Datum.sum, signed_key]
  rw [e0, e1, e2]
  have v1 : valR a = magR a * 2 ^ (expR a - k) * 2 ^ k := by
    unfold valR
    rw [Nat.mul_assoc, ← pow_split, show expR a - k + k = expR a by omega]
  have v2 : valR b = magR b * 2 ^ (expR b - k) * 2 ^ k := by
    unfold valR
    rw [Nat.mul_assoc, ← pow_split, show expR b - k + k = expR b by omega]
  have kk : ∀ (s : Bool) (x : Nat), key s (x * 2 ^ k) = key s x * ((2 ^ k : Nat) : Int) := by
    intro s x
    cases s
    · simp only [key_false, Int.natCast_mul]
    · simp only [key_true, Int.natCast_mul, Int.neg_mul]
  have hp : (0 : Int) < ((2 ^ k : Nat) : Int) := by have := Nat.two_pow_pos k; omega
  have hsum : key s (valR a) + key t (valR b) = (key s (magR a * 2 ^ (expR a - k)) + key t (magR b * 2 ^ (expR b - k))) * ((2 ^ k : Nat) : Int) := by
    rw [v1, v2, kk, kk, Int.add_mul]
  refine ⟨_, _, k, rfl, ?_, ?_⟩
  · rw [hsum, Int.natAbs_mul, Int.natAbs_natCast]
  · intro hne
    have hz : key s (magR a * 2 ^ (expR a - k)) + key t (magR b * 2 ^ (expR b - k)) ≠ 0 := by
      intro hz
      rw [hz, Int.zero_mul] at hsum
      exact hne hsum
    rw [if_neg hz, hsum]
    congr 1
    apply propext
    constructor
    · intro h; exact Int.mul_neg_of_neg_of_pos h hp
    · intro h
      rcases Int.lt_or_le (key s (magR a * 2 ^ (expR a - k)) + key t (magR b * 2 ^ (expR b - k))) 0 with h1 | h1
      · exact h1
      · have := Int.mul_nonneg h1 (Int.le_of_lt hp); omega
end Fl
end Go.Proofs.YtellndmbllmjgaaGreatDoor
/- How great math.archLog's answer can be. -/
set_option linter.unusedVariables false
set_option linter.unusedSimpArgs false
namespace Go.Proofs.YtellndmbllmjgaaGreatDoor
namespace Fl
open Ieee Go

end Fl
end Go.Proofs.YtellndmbllmjgaaGreatDoor
